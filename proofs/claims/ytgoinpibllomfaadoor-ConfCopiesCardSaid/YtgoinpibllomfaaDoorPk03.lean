/- Part 3 of what the statement wants. -/
import Derived.Shelf.Strings.Search1
import Derived.Shelf.Strings.Search2
import Derived.Shelf.Strings.Search3
import Derived.Shelf.LaysM
import Derived.Shelf.Strings.Shaped
import Derived.Shelf.Strings.Prefix
import Derived.Ground.Names2Prog
import Derived.Shelf.Slices.Clone
import Derived.Test.YtgoinpibllomfaaDoorProg
import Derived.Test.YtgoinpibllomfaaDoorPk02
namespace Go.Proofs.YtgoinpibllomfaaDoor
open Go.RowKit

set_option maxRecDepth 100000 in
theorem cfUnless_any (b : Bool) (x : ByteArray) (e : Int) (he : e ≠ 0) (w : World) : Calls Tryd.prog 67 #[.bool b, .string x, .int .i64 e] w (Checked w (unlessP b x e)) := by
  have HO := Lib.hid (fOf_any x e he w)
  have HB := Lib.hid (Below.refl w.heap.size w)
  cases b with
  | true =>
    clear HO he
    go_enter Tryd.func67, Tryd.ntmps67
    go_wp2_with fail
    go_ret
    exact ⟨.nilIface, rfl, rfl, HB.out⟩
  | false =>
    have HS : Hid (∀ (W : World) (v : Value), ErrAt W v [x] (some e) → v ≠ .nilIface → ErrIs W (unlessP false x e) v) := fun W v h hn => by
      cases h with
      | fault h1 h2 h3 h4 => exact ⟨_, _, rfl, .fault h1 h2 h3 h4⟩
    clear he
    go_enter Tryd.func67, Tryd.ntmps67
    go_wp2_with (go_at_call 46; (with_reducible refine HO.out.mono ?_); rintro r w1 ⟨v, rfl, hv, hn, b1⟩)
    go_ret
    exact ⟨v, rfl, HS.out _ _ hv hn, b1⟩

set_option maxRecDepth 100000 in
theorem cfPeople1_any (z : Int) (w : World) : Calls Tryd.prog 82 #[.int .i64 z] w fun e w' => e = .returned (.bool (!whoB z)) ∧ Below w.heap.size w w' := by
  have HB := Lib.hid (Below.refl w.heap.size w)
  by_cases h0 : z < 0
  · have q0 : decide (z < 0) = true := decide_eq_true h0
    have HF : Hid ((!whoB z) = true) := by
      show (!whoB z) = true
      unfold whoB
      rw [decide_eq_false (by omega)]
      rfl
    generalize (!whoB z) = r at *
    go_enter Tryd.func82, Tryd.ntmps82
    go_wp2_with fail
    go_ret
    exact ⟨by rw [HF.out]; rfl, HB.out⟩
  have q0 : decide (z < 0) = false := decide_eq_false h0
  obtain ⟨r, hr⟩ : ∃ r, r = (!whoB z) := ⟨_, rfl⟩
  have q1 : decide (z ≥ 16) = r := by
    rw [hr]
    unfold whoB
    rw [decide_eq_true (show 0 ≤ z by omega), Bool.true_and, Bool.eq_iff_iff, decide_eq_true_iff, Bool.not_eq_true', decide_eq_false_iff_not]
    omega
  rw [← hr]
  clear hr
  go_enter Tryd.func82, Tryd.ntmps82
  go_wp2_with fail
  go_ret
  exact ⟨rfl, HB.out⟩

theorem who_take {l : List Int} {k : Nat} (hk : k < l.length) (h : (l.take k).all whoB = true) (hr : whoB l[k] = true) : (l.take (k + 1)).all whoB = true := by
  rw [List.take_succ_eq_append_getElem hk, List.all_append, h]
  simp [hr]
theorem who_miss {l : List Int} {k : Nat} (hk : k < l.length) (hr : whoB l[k] = false) : l.all whoB = false := by
  rw [List.all_eq_false]
  exact ⟨l[k], List.getElem_mem hk, by rw [hr]; simp⟩
set_option maxRecDepth 100000 in
theorem idxFuncI_any {w : World} {v : Value} {l : List Int} (h : IdsAt w v l) (hl : l.length ≤ 1000) :
    Calls Tryd.prog 94 #[v, .func (.func 82) #[] #[]] w fun e w' => ∃ z : Int, e = .returned (.int .i64 z) ∧ decide (z ≥ 0) = !l.all whoB ∧ Below w.heap.size w w' := by
  obtain ⟨ao, cap, rfl, hc⟩ := h
  have HCl := Lib.hid (fun (W : World) (x : Int) => cfPeople1_any x W)
  have HC := Lib.hid hc
  clear hc
  go_enter Tryd.func94, Tryd.ntmps94
  go_wp2_with fail
  go_loopw [8] (fun i wr => ∃ k : Nat, k ≤ l.length ∧ i = .int .i64 k ∧ (l.take k).all whoB = true ∧ Below w.heap.size w wr) (fun i _ => l.length - (intOf i).toNat)
  case atStart => exact ⟨0, Nat.zero_le _, rfl, rfl, Below.refl _ _⟩
  case round =>
    obtain ⟨k, hk, rfl, htk, hbel⟩ := hrel
    by_cases hlt : k < l.length
    · obtain ⟨b, off, rfl, hb, hcell⟩ := HC.out (by intro h; simp [h] at hlt)
      obtain ⟨x, hx⟩ : ∃ x, x = l[k] := ⟨_, rfl⟩
      have c1 := (hbel.cell (p := ⟨b, off + k, none⟩) hb).trans (hcell k x (by rw [hx]; exact List.getElem?_eq_getElem hlt))
      have HO := Lib.hid (HCl.out wr x)
      have HN : Hid (whoB x = true → (l.take (k + 1)).all whoB = true) := fun e => who_take hlt htk (by rw [← hx]; exact e)
      have HT : Hid (whoB x = false → l.all whoB = false) := fun e => who_miss hlt (by rw [← hx]; exact e)
      have HB := Lib.hid hbel
      clear hcell htk hx hbel HC HCl
      generalize whoB x = m at *
      cases m with
      | true =>
        have HR := Lib.hid (HN.out rfl)
        clear HN HT
        go_wp2_with (go_at_call 82; (with_reducible refine HO.out.mono ?_); rintro e w1 ⟨rfl, b1⟩)
        go_roundw
        case rel => exact ⟨k + 1, by omega, by go_num, HR.out, HB.out.trans (b1.mono HB.out.size)⟩
        case measure => simp [intOf]; omega
      | false =>
        have HR := Lib.hid (HT.out rfl)
        clear HN HT
        go_wp2_with (go_at_call 82; (with_reducible refine HO.out.mono ?_); rintro e w1 ⟨rfl, b1⟩)
        go_ret
        exact ⟨_, rfl, by rw [HR.out]; exact decide_eq_true (by omega), HB.out.trans (b1.mono HB.out.size)⟩
    · have hkl : k = l.length := by omega
      subst hkl
      rw [List.take_length] at htk
      have HT := Lib.hid htk
      clear htk hlt HC HCl
      go_wp2_with fail
      go_ret
      exact ⟨_, rfl, by rw [HT.out]; decide, hbel⟩
set_option maxRecDepth 100000 in
theorem contFuncI_any {w : World} {v : Value} {l : List Int} (h : IdsAt w v l) (hl : l.length ≤ 1000) :
    Calls Tryd.prog 83 #[v, .func (.func 82) #[] #[]] w fun e w' => e = .returned (.bool (!l.all whoB)) ∧ Below w.heap.size w w' := by
  have HI := Lib.hid (idxFuncI_any h hl)
  obtain ⟨ao, cap, rfl, _⟩ := h
  go_enter Tryd.func83, Tryd.ntmps83
  go_wp2_with (go_at_call 94; (with_reducible refine HI.out.mono ?_); rintro e w2 ⟨z, rfl, hz, b2⟩)
  go_ret
  exact ⟨by rw [← hz]; rfl, b2⟩
set_option maxRecDepth 100000 in
theorem cfPeople_any {w : World} {v : Value} {l : List Int} (h : IdsAt w v l) (hl : l.length ≤ 1000) (x : ByteArray) : Calls Tryd.prog 63 #[.string x, v] w (Checked w (unlessP (l.all whoB) x 5)) := by
  have HC := Lib.hid (fun (W : World) (hb : Below w.heap.size w W) => contFuncI_any (h.keep hb.size fun _ _ _ _ _ hlt => hb.cell hlt) hl)
  have HU := Lib.hid (fun (W : World) => cfUnless_any (l.all whoB) x 5 (by decide) W)
  have HB0 := Lib.hid (Below.refl w.heap.size w)
  obtain ⟨ao, cap, rfl, _⟩ := h
  generalize l.all whoB = m at *
  generalize unlessP m x 5 = o at *
  go_enter Tryd.func63, Tryd.ntmps63
  go_wp2_with (first
    | (go_at_call 83; (with_reducible refine (HC.out _ HB0.out).mono ?_); rintro e w1 ⟨rfl, b1⟩)
    | (go_at_call 67; (first | with_reducible refine (HU.out _).mono ?_ | (simp only [Bool.not_not]; with_reducible refine (HU.out _).mono ?_)); rintro e w2 ⟨v, rfl, hv, b2⟩))
  go_ret
  exact ⟨v, rfl, hv, b1.trans (b2.mono b1.size)⟩
def versionS : ByteArray := ⟨#[118, 101, 114, 115, 105, 111, 110]⟩
end Go.Proofs.YtgoinpibllomfaaDoor

namespace Go.Proofs
open Go.Shelf
def Tryd.lays144_ren : Go.Shelf.Ren := ⟨fun | 144 => 90 | 143 => 98 | 219 => 104 | 217 => 108 | 225 => 109 | 224 => 110 | 267 => 111 | 266 => 112 | 314 => 113 | n => n, fun | 9 => 9 | 4 => 4 | 3 => 3 | 5 => 5 | 46 => 114 | 146 => 159 | 51 => 48 | n => n, fun | 1 => 3 | n => n⟩
theorem Tryd.lays144 : Go.Proofs.Lays.n144 Tryd.prog Tryd.lays144_ren := {
  mixed := by kernel_rfl
  f143 := Tryd.func98.trans (congrArg some (by kernel_rfl))
  f144 := Tryd.func90.trans (congrArg some (by kernel_rfl))
  f217 := Tryd.func108.trans (congrArg some (by kernel_rfl))
  f219 := Tryd.func104.trans (congrArg some (by kernel_rfl))
  f224 := Tryd.func110.trans (congrArg some (by kernel_rfl))
  f225 := Tryd.func109.trans (congrArg some (by kernel_rfl))
  f266 := Tryd.func112.trans (congrArg some (by kernel_rfl))
  f267 := Tryd.func111.trans (congrArg some (by kernel_rfl))
  f314 := Tryd.func113.trans (congrArg some (by kernel_rfl))
  t3 := Tryd.underlying3
  a3 := Tryd.isAgg3
  z3 := Tryd.sizeOf3
  v3 := Tryd.zeroValue3
  t4 := Tryd.underlying4
  a4 := Tryd.isAgg4
  z4 := Tryd.sizeOf4
  v4 := Tryd.zeroValue4
  t5 := Tryd.underlying5
  a5 := Tryd.isAgg5
  z5 := Tryd.sizeOf5
  v5 := Tryd.zeroValue5
  t9 := Tryd.underlying9
  a9 := Tryd.isAgg9
  z9 := Tryd.sizeOf9
  v9 := Tryd.zeroValue9
  t46 := Tryd.underlying114
  a46 := Tryd.isAgg114
  z46 := Tryd.sizeOf114
  v46 := Tryd.zeroValue114
  t51 := Tryd.underlying48
  a51 := Tryd.isAgg48
  z51 := Tryd.sizeOf48
  v51 := Tryd.zeroValue48
  t146 := Tryd.underlying159
  a146 := Tryd.isAgg159
  z146 := Tryd.sizeOf159
  v146 := Tryd.zeroValue159
  g1 := by kernel_rfl }
open Go.RowKit Go.Lib in
theorem Tryd.strings_Contains_one (s : ByteArray) (c : UInt8) (w : World) :
    Calls Tryd.prog 90 #[.string s, .string ⟨#[c]⟩] w fun e w' => e = .returned (.bool (decide (0 ≤ Lib.indexByte s.data.toList c))) ∧ w' = w := Any.strings_Contains_one Tryd.lays144 s c w
def Tryd.lays99_ren : Go.Shelf.Ren := ⟨fun | 99 => 100 | 206 => 106 | n => n, fun | 9 => 9 | 4 => 4 | 3 => 3 | n => n, fun | n => n⟩
theorem Tryd.lays99 : Go.Proofs.Lays.n99 Tryd.prog Tryd.lays99_ren := {
  mixed := by kernel_rfl
  f99 := Tryd.func100.trans (congrArg some (by kernel_rfl))
  f206 := Tryd.func106.trans (congrArg some (by kernel_rfl))
  t3 := Tryd.underlying3
  a3 := Tryd.isAgg3
  z3 := Tryd.sizeOf3
  v3 := Tryd.zeroValue3
  t4 := Tryd.underlying4
  a4 := Tryd.isAgg4
  z4 := Tryd.sizeOf4
  v4 := Tryd.zeroValue4
  t9 := Tryd.underlying9
  a9 := Tryd.isAgg9
  z9 := Tryd.sizeOf9
  v9 := Tryd.zeroValue9 }
open Go.RowKit Go.Lib in
theorem Tryd.strings_HasPrefix (s p : ByteArray) (w : World) :
    Calls Tryd.prog 100 #[.string s, .string p] w fun e w' => e = .returned (.bool (Lib.hasPrefix s.data.toList p.data.toList)) ∧ w' = w := Any.strings_HasPrefix Tryd.lays99 s p w
def Tryd.laysNm215_ren : Go.Shelf.Ren := ⟨fun | 15 => 42 | n => n, fun | 22 => 47 | 3 => 3 | 4 => 4 | n => n, fun | n => n⟩
theorem Tryd.laysNm215 : Go.Proofs.Lays2.n15 Tryd.prog Tryd.laysNm215_ren := {
  mixed := by kernel_rfl
  f15 := Tryd.func42.trans (congrArg some (by kernel_rfl))
  t3 := Tryd.underlying3
  a3 := Tryd.isAgg3
  z3 := Tryd.sizeOf3
  v3 := Tryd.zeroValue3
  t4 := Tryd.underlying4
  a4 := Tryd.isAgg4
  z4 := Tryd.sizeOf4
  v4 := Tryd.zeroValue4
  t22 := Tryd.underlying47
  a22 := Tryd.isAgg47
  z22 := Tryd.sizeOf47
  v22 := Tryd.zeroValue47
  i3 := by kernel_rfl }
open Go.RowKit Go.Lib in
theorem Tryd.slices_Clone_int (b off n c : Nat) (zs : List Int) (w : World) (hz : n ≤ zs.length) (hbig : n * 8 ≤ 140737488355328) (hc : ∀ j, j < zs.length → w.cell? ⟨b, off + j, none⟩ = some (.int .i64 (zs.getD j 0))) :
    Calls Tryd.prog 42 #[.slice (some ⟨b, off, none⟩) n c] w fun e w' => ∃ v', e = .returned v' ∧ w'.ownsRow w.heap.size 3 1 v' n ((zs.take n).map (Value.int .i64)) ∧ v' ≠ .slice none 0 0 ∧ Below w.heap.size w w' := Any.slices_Clone_int Tryd.laysNm215 b off n c zs w hz hbig hc
open Go.RowKit Go.Lib in
theorem Tryd.slices_Clone_int_nil (n c : Nat) (w : World) :
    Calls Tryd.prog 42 #[.slice none n c] w fun e w' => e = .returned (.slice none 0 0) ∧ w' = w := Any.slices_Clone_int_nil Tryd.laysNm215 n c w
def Tryd.laysNm216_ren : Go.Shelf.Ren := ⟨fun | 16 => 33 | n => n, fun | 24 => 23 | 9 => 9 | 4 => 4 | n => n, fun | n => n⟩
theorem Tryd.laysNm216 : Go.Proofs.Lays2.n16 Tryd.prog Tryd.laysNm216_ren := {
  mixed := by kernel_rfl
  f16 := Tryd.func33.trans (congrArg some (by kernel_rfl))
  t4 := Tryd.underlying4
  a4 := Tryd.isAgg4
  z4 := Tryd.sizeOf4
  v4 := Tryd.zeroValue4
  t9 := Tryd.underlying9
  a9 := Tryd.isAgg9
  z9 := Tryd.sizeOf9
  v9 := Tryd.zeroValue9
  t24 := Tryd.underlying23
  a24 := Tryd.isAgg23
  z24 := Tryd.sizeOf23
  v24 := Tryd.zeroValue23
  i9 := by kernel_rfl }
open Go.RowKit Go.Lib in
theorem Tryd.slices_Clone_string (b off n c : Nat) (zs : List ByteArray) (w : World) (hz : n ≤ zs.length) (hbig : n * 16 ≤ 140737488355328) (hc : ∀ j, j < zs.length → w.cell? ⟨b, off + j, none⟩ = some (.string (zs.getD j ByteArray.empty))) :
    Calls Tryd.prog 33 #[.slice (some ⟨b, off, none⟩) n c] w fun e w' => ∃ v', e = .returned v' ∧ w'.ownsRow w.heap.size 9 1 v' n ((zs.take n).map (Value.string)) ∧ v' ≠ .slice none 0 0 ∧ Below w.heap.size w w' := Any.slices_Clone_string Tryd.laysNm216 b off n c zs w hz hbig hc
open Go.RowKit Go.Lib in
theorem Tryd.slices_Clone_string_nil (n c : Nat) (w : World) :
    Calls Tryd.prog 33 #[.slice none n c] w fun e w' => e = .returned (.slice none 0 0) ∧ w' = w := Any.slices_Clone_string_nil Tryd.laysNm216 n c w
open Go.RowKit Go.Lib in
theorem Tryd.slices_Clone_int_zero (a : Addr) (c : Nat) (w : World) :
    Calls Tryd.prog 42 #[.slice (some a) 0 c] w fun e w' => ∃ v', e = .returned v' ∧ w'.ownsRow w.heap.size 3 1 v' 0 [] ∧ v' ≠ .slice none 0 0 ∧ Below w.heap.size w w' := Any.slices_Clone_int_zero Tryd.laysNm215 a c w
open Go.RowKit Go.Lib in
theorem Tryd.slices_Clone_string_zero (a : Addr) (c : Nat) (w : World) :
    Calls Tryd.prog 33 #[.slice (some a) 0 c] w fun e w' => ∃ v', e = .returned v' ∧ w'.ownsRow w.heap.size 9 1 v' 0 [] ∧ v' ≠ .slice none 0 0 ∧ Below w.heap.size w w' := Any.slices_Clone_string_zero Tryd.laysNm216 a c w
end Go.Proofs
