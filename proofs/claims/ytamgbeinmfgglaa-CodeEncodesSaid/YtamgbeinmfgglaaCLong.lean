/- The awake of layer 2, and CodeLong. -/
import Derived.Test.YtamgbeinmfgglaaDecData
import Derived.Test.YtamgbeinmfgglaaLong
import Derived.Deep.RegionWith
namespace Go.Proofs.Ytamgbeinmfgglaa
open Go.RowKit

theorem dataM_nil (s : ByteArray) (h : 5 + s.size ≤ 131072) : dataM [] s = (0, [⟨⟨1, 0, 0, s, []⟩, 5 + s.size⟩]) := by
  unfold dataM built
  rw [if_pos ⟨rfl, by simpa [sizes] using h⟩]
  rfl

theorem awake2_any (w : World) : Calls Try.prog 26 #[] w fun e w' => e = .returned (.bool true) ∧ Below w.heap.size w w' := by
  go_enter Try.func26, Try.ntmps26
  go_wp2_with fail
  refine (New_any _).mono ?_
  rintro e w1 ⟨A, F, rfl, h1, b1⟩
  go_wp2_with fail
  refine (Data_any h1 (by simp) ⟨#[97]⟩ (by decide)).mono ?_
  intro e w2 hm
  rw [aw1] at hm
  obtain ⟨rfl, F2, h2, b2⟩ := hm.out h1
  have he : Calls Try.prog 27 #[.pointer (some ⟨A, 0, none⟩), .int .i64 0] w2 fun r w' => r = .returned (.string ⟨#[241, 0, 0, 0, 1, 97]⟩) ∧ Below w2.heap.size w2 w' :=
    Encode_data h2 (n := 0) (a := 0) (b := 0) (z := 6) (s := ⟨#[97]⟩) rfl (by decide) (by decide)
  clear hm
  go_wp2_with (go_at_call 27; refine he.mono ?_; rintro r w3 ⟨rfl, b3⟩)
  go_ret
  exact ⟨rfl, b1.trans (b2.trans (b3.mono (b1.trans b2).size))⟩

theorem make_zeros (k : Nat) (hk : k ≤ 1000000) (W : World) : (Instr.makeSlice 53 (.int .i64 (k : Int)) (.int .i64 (k : Int))).run Try.prog W = .ok (.slice (some ⟨W.heap.size, 0, none⟩) k k) (W.alloc (.cells (byteCells (List.replicate k 0)).toArray 5)) := by
  obtain ⟨i0, hi, hz0, hz1, hz2⟩ := info_parts info_u8
  have h := run_make (P := Try.prog) W 53 5 i0 (.int .u8 0) Try.underlying53 hi hz0 .i64 .i64 (k : Int) (k : Int) (by omega) (by omega) (by rw [hz2]; omega) (by omega)
  have e : madeCells (Value.int .u8 0).cells (((k : Nat) : Int).toNat * i0.size) = (byteCells (List.replicate k 0)).toArray := by
    apply Array.ext
    · simp [size_madeCells, byteCells, hz1]
    · intro i h1 h2
      simp [madeCells, byteCells, Value.cells, Nat.mod_one]
  rw [h, e]
  simp
theorem string_zeros (k : Nat) (hk : k ≤ 1000000) (W : World) (X : Nat) (h : Holds W X 5 (byteCells (List.replicate k 0)).toArray) :
    (convert 53 9 (.slice (some ⟨X, 0, none⟩) k k)).run Try.prog W = .ok (.string (zeros k)) W :=
  run_string_own (base := 0) ⟨by simp [byteCells], .inr ⟨X, k, _, rfl, Nat.zero_le _, h, Nat.le_refl _, by unfold maxLen; omega, by simp [byteCells], by simp [byteCells]⟩⟩

theorem size_one {B A : Nat} {F : Nat → Prop} {w : World} {T : ByteArray} {k : Nat} (h : ArenaAt B A [⟨⟨1, 0, 0, T, []⟩, 5 + k⟩] F w) :
    Calls Try.prog 18 #[.pointer (some ⟨A, 0, none⟩), .int .i64 0] w fun e w' => e = .returned (.int .i64 ((k : Int) + 5)) ∧ w = w' := by
  have h := Size_any h 0
  have e : sizeAt [⟨⟨1, 0, 0, T, []⟩, 5 + k⟩] 0 = (k : Int) + 5 := by simp [sizeAt, at_]; omega
  rw [e] at h
  exact h

set_option maxHeartbeats 4000000 in
set_option maxRecDepth 100000 in
theorem CodeLong_walk (n : Nat) (hn : n ≤ 255) (w : World) : Calls Try.prog 10 #[.int .u8 n] w fun e w' => e = .returned (.bool true) ∧ Below w.heap.size w w' := by
  go_enter Try.func10, Try.ntmps10
  go_wp2_with fail
  obtain ⟨k, hk, hk1, hk2⟩ : ∃ k : Nat, 131060 + (n : Int) % 31 = (k : Int) + 5 ∧ 131055 ≤ k ∧ k ≤ 131085 := ⟨(131055 + (n : Int) % 31).toNat, by omega, by omega, by omega⟩
  rw [hk]
  clear hk
  generalize (n : Int) % 31 = q
  have hmk := make_zeros k (by omega)
  have hcv := fun W => string_zeros k (by omega) (W.alloc (.cells (byteCells (List.replicate k 0)).toArray 5)) W.heap.size (Holds.new W _ _)
  have hcz := Lib.hid (string_zeros k (by omega))
  have hcvd := fun W => string_zeros k (by omega) (W.alloc (.cells (byteCells (List.replicate k 0)).toArray 5)).drew W.heap.size (Holds.new W _ _)
  have hP : (bs (pack4 k)).size ≤ 4 := by rw [bs_size]; exact Nat.le_refl _
  have hZ : (zeros k).size ≤ 131085 := by rw [zeros_size]; omega
  have hwk : IntKind.i64.wrap (k : Int) = k := IntWalk.i64_in _ (by omega)
  have hU := refU32_any k (by omega)
  have HS : Hid ((⟨#[241]⟩ : ByteArray) ++ bs (pack4 k) ++ zeros k = bs (241 :: cnt (List.replicate k 0))) := by
    have e1 : (⟨#[241]⟩ : ByteArray) = bs [241] := rfl
    have e2 : zeros k = bs (List.replicate k 0) := rfl
    refine Lib.hid ?_
    rw [e1, e2, bs_append, bs_append]
    simp [cnt]
  generalize (byteCells (List.replicate k 0)).toArray = Z at *
  generalize bs (pack4 k) = P at *
  generalize hzk : zeros k = Y at *
  have HY := Lib.hid hzk
  clear hzk
  go_region_with (first
    | (go_at_call 30
       refine (hU _).mono ?_
       rintro e w3 ⟨rfl, b3⟩
       have b5 : Below (w.alloc (.cells Z 5)).drew.heap.size (w.alloc (.cells Z 5)).drew w3 := by with_reducible exact b3
       have hcy := hcz.out w3 w.heap.size ((b5.block w.heap.size (by simp)).trans (Holds.new w 5 Z))
       have b4 : Below w.heap.size w w3 := (((Below.refl w.heap.size w).alloc (Nat.le_refl _) (.cells Z 5)).drew).trans (b5.mono (by simp)))
    | (go_at_call 30
       refine (hU _).mono ?_
       rintro e w3 ⟨rfl, b3⟩
       have b5 : Below w.drew.heap.size w.drew w3 := by with_reducible exact b3
       have b4 : Below w.heap.size w w3 := (Below.refl w.heap.size w).drew.trans b5))
  all_goals
    rename_i hx1 hx2
    clear hx1 hx2
    try simp only [HS.out]
    clear hmk hcv hcvd hcz hU HS HY hP hZ hwk
    have hSz : (bs (241 :: cnt (List.replicate k 0))).size = k + 5 := by rw [bs_size]; simp [cnt, pack4]
    go_wp2_with fail
    refine (New_any _).mono ?_
    rintro e wa ⟨A, F, rfl, ha, ba⟩
    have b7 : Below w.heap.size w wa := by
      first
      | exact b4.trans (ba.mono b4.size)
      | exact (b4.alloc b4.size _).trans (ba.mono (Nat.le_trans b4.size (by simp)))
      | exact (b4.drew.alloc b4.size _).trans (ba.mono (Nat.le_trans b4.size (by simp)))
      | exact ((b4.alloc b4.size _).drew).trans (ba.mono (Nat.le_trans b4.size (by simp)))
    have hlow : ∀ i, F i → w.heap.size ≤ i := fun i hi => Nat.le_trans (by first | exact b4.size | exact Nat.le_trans b4.size (by simp)) (ha.lt i hi).1
    by_cases hlong : 131067 < k
    · have hS1 : 131072 < (bs (241 :: cnt (List.replicate k 0))).size := by omega
      have hS2 : (bs (241 :: cnt (List.replicate k 0))).size ≤ 1000000 := by omega
      have c1 : (131072 : Int) < (k : Int) + 5 := by omega
      clear hSz ba
      generalize bs (241 :: cnt (List.replicate k 0)) = S at *
      go_wp2_with (first
        | (go_at_call 28; refine (Decode_long S hS1 hS2 _).mono ?_; rintro e wb ⟨rfl, rfl⟩)
        | (go_at_call 26; refine (awake2_any _).mono ?_; rintro e wc ⟨rfl, b8⟩)
        | (go_at_call 31; refine (Opaque_long S hS1 hS2 _).mono ?_; rintro e wd ⟨rfl, b9⟩))
      go_ret
      exact ⟨rfl, b7.trans ((b8.trans (b9.mono b8.size)).mono b7.size)⟩
    · have c1 : decide ((131072 : Int) < (k : Int) + 5) = false := by simp; omega
      have hr : (List.replicate k (0 : UInt8)).length = k := List.length_replicate
      have hdm := dataM_nil (bs (List.replicate k 0)) (by rw [bs_size, hr]; omega)
      have hD := Decode_data (l := List.replicate k 0) ha (by simp) (by rw [hr]; omega) (by rw [hdm]; simp)
      rw [hdm, bs_size, hr] at hD
      have HLo := Lib.hid hlow
      have HA := Lib.hid ha
      clear hSz ba hr hdm hlow hk1 b3 b5 hk2 hlong ha
      generalize bs (241 :: cnt (List.replicate k 0)) = S at *
      generalize bs (List.replicate k 0) = T at *
      go_wp2_with (first
        | (go_at_call 28; refine hD.mono ?_; rintro e wb ⟨rfl, F2, hb, m2, _⟩; have b9 : Below w.heap.size w wb := b7.trans (m2.below b7.size HLo.out); clear m2)
        | (go_at_call 26; refine (awake2_any _).mono ?_; rintro e wc ⟨rfl, b8⟩)
        | (go_at_call 18; refine (size_one (hb.below b8)).mono ?_; rintro e wd ⟨rfl, rfl⟩))
      go_ret
      exact ⟨rfl, b9.trans (b8.mono b9.size)⟩
end Go.Proofs.Ytamgbeinmfgglaa
