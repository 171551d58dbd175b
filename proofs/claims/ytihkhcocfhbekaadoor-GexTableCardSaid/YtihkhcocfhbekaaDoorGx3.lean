/- Layer 18: the groups of the table, by the document. -/
import Derived.Test.YtihkhcocfhbekaaDoorGx2
import Derived.Deep.AppendLies
namespace Go.Proofs.YtihkhcocfhbekaaDoor
open Go.RowKit

theorem modL_step (n m k : Nat) (h : k < m) : byteCells ((modL n m).take k) ++ [.int .u8 (fixAt n m k : Int)] = byteCells ((modL n m).take (k + 1)) := by
  have hk : k < (modL n m).length := by rw [modL_len]; exact h
  have e : (modL n m)[k] = UInt8.ofNat (fixAt n m k) := by simp [modL]
  rw [List.take_succ_eq_append_getElem hk, byteCells_append, e]
  simp only [byteCells, List.map_cons, List.map_nil, UInt8.toNat_ofNat']
  rw [Nat.mod_eq_of_lt (fixAt_lt n m k)]

set_option maxHeartbeats 2000000 in
set_option maxRecDepth 100000 in
theorem r18Group_any (n : Nat) (h1 : 1024 ≤ n) (h2 : n ≤ 4096) (w : World) : Calls Tryd.prog 31 #[.int .i64 (n : Int)] w fun e w' => e = .returned (.agg #[.string (bs (modL n (n / 8))), .string ⟨#[2]⟩]) ∧ Below w.heap.size w w' := by
  have ht1 : Int.tdiv (n : Int) 8 = ((n / 8 : Nat) : Int) := by rw [Int.tdiv_eq_ediv_of_nonneg (by omega)]; omega
  have ht2 : Int.tdiv (n : Int) 64 = ((n / 64 : Nat) : Int) := by rw [Int.tdiv_eq_ediv_of_nonneg (by omega)]; omega
  have hm1 : 128 ≤ n / 8 := by omega
  have hm2 : n / 8 ≤ 512 := by omega
  have hq : n / 64 ≤ 64 := by omega
  have HA : Hid (∀ i, modAt n i = (7 * i + n / 64) % 251) := fun _ => rfl
  generalize n / 8 = m at *
  generalize n / 64 = q at *
  obtain ⟨i0, hi, hz0, hz1, hz2⟩ := info_parts info_u8
  go_enter Tryd.func31, Tryd.ntmps31
  go_wp2_with fail
  go_loopw [3, 4, 5] (fun v i _ wr => ∃ k : Nat, k ≤ m ∧ i = .int .i64 (k : Int) ∧ wr.ownsRow (w.heap.size + 1) 5 1 v k (byteCells ((modL n m).take k)) ∧ (k = 0 → v = .slice none 0 0) ∧ Holds wr w.heap.size 51 #[.string ⟨#[]⟩, .string ⟨#[]⟩] ∧ Below w.heap.size w wr) (fun _ i _ _ => (m + 1 - intOf i).toNat)
  case atStart => exact ⟨0, Nat.zero_le _, rfl, ⟨by simp [byteCells], .inl ⟨rfl, rfl⟩⟩, fun _ => rfl, Holds.new _ _ _, (Below.refl _ _).alloc (Nat.le_refl _) _⟩
  case round =>
    obtain ⟨k, hk, rfl, hrow, hv0, hbox, hb⟩ := hrel
    by_cases hlt : k < m
    · have ht3 : Int.tmod (7 * (k : Int) + (q : Int)) 251 = ((modAt n k : Nat) : Int) := by
        rw [HA.out, Int.tmod_eq_emod_of_nonneg (by omega)]
        omega
      have hy := modAt_lt n k
      have hst := modL_step n m k hlt
      have HB := Lib.hid hb
      have HH := Lib.hid hbox
      have hbs := hbox.lt
      have ht4 : Int.tmod ((modAt n k : Nat) : Int) 2 = ((modAt n k % 2 : Nat) : Int) := by rw [Int.tmod_eq_emod_of_nonneg (by omega)]; omega
      have hr2 : modAt n k % 2 < 2 := Nat.mod_lt _ (by omega)
      have hfx : fixAt n m k = if k = 0 then fix0 (modAt n k) else if k = m - 1 then fix1 (modAt n k) else modAt n k := rfl
      have hf1 : fix1 (modAt n k) = if modAt n k % 2 = 0 then modAt n k + 1 else modAt n k := rfl
      have hf0 : fix0 (modAt n k) = if modAt n k < 128 then modAt n k + 128 else modAt n k := rfl
      rw [hf0, hf1] at hfx
      rw [hfx] at hst
      clear hb hbox HA hfx hf0 hf1
      generalize modAt n k % 2 = r at *
      generalize modAt n k = x at *
      generalize hXS : byteCells ((modL n m).take k) = XS at *
      clear hXS
      by_cases hk0 : k = 0
      · obtain rfl := hv0 hk0
        have HR := Lib.hid hrow
        clear hrow hv0
        rw [if_pos hk0] at hst
        have q0 : ((k : Int) == 0) = true := by rw [beq_iff_eq]; omega
        have q2 : ((k : Int) == (m : Int) - 1) = false := by rw [beq_eq_false_iff_ne]; omega
        clear hk0
        by_cases hx : x < 128
        · rw [if_pos hx] at hst
          have q1 : decide ((x : Int) < 128) = true := decide_eq_true (by omega)
          have HX : Hid (XS ++ [.int .u8 ((x : Int) + 128)] = byteCells ((modL n m).take (k + 1))) := hst
          clear hst ht4
          go_wp2_with (first
            | (at_builtin; refine wpList_append_lies _ rfl _ _ 85 rfl (w.heap.size + 1) 5 i0 (.int .u8 0) 1 1 Tryd.underlying85 hi hz0 hz1 hz2 rfl (by decide) _ k XS rfl (HR.out.alloc _) ⟨wr.heap.size, 0, none⟩ 1 1 [.int .u8 ((x : Int) + 128)] rfl rfl (cell_one_new wr _ _) (by simp [Value.oneCell']) (by decide) (by unfold maxLen; omega) (by omega) (by rw [World.size_alloc]; omega) _ rfl ?_; intro g4 c4 w4 hrow4 hg4 hat4 hlt4; have HR4 := Lib.hid hrow4; have M4 := Lib.hid (((Moves.refl (fun i => Value.ownBlock (.slice none 0 0) = some i) wr).alloc (.cells #[.int .u8 ((x : Int) + 128)] 5)).grown hg4 (fun _ hi => .inl hi)); have B4 := Lib.hid ((HB.out.alloc HB.out.size (.cells #[.int .u8 ((x : Int) + 128)] 5)).grown hg4 (by rw [World.size_alloc]; omega) (fun j hj => Nat.le_of_succ_le (HR.out.lt j hj).1)); clear hrow4 hg4 hat4))
          have hh4 := HH.out.moves M4.out (fun e => by have := (HR.out.lt _ e).1; omega)
          go_roundw
          case rel => exact ⟨k + 1, by omega, by go_num, by rw [← HX.out]; exact HR4.out, fun e => absurd e (by omega), hh4, B4.out⟩
          case measure => simp [intOf]; try omega
        · rw [if_neg hx] at hst
          have q1 : decide ((x : Int) < 128) = false := decide_eq_false (by omega)
          have HX := Lib.hid hst
          clear hst ht4
          go_wp2_with (first
            | (at_builtin; refine wpList_append_lies _ rfl _ _ 85 rfl (w.heap.size + 1) 5 i0 (.int .u8 0) 1 1 Tryd.underlying85 hi hz0 hz1 hz2 rfl (by decide) _ k XS rfl (HR.out.alloc _) ⟨wr.heap.size, 0, none⟩ 1 1 [.int .u8 ((x : Int))] rfl rfl (cell_one_new wr _ _) (by simp [Value.oneCell']) (by decide) (by unfold maxLen; omega) (by omega) (by rw [World.size_alloc]; omega) _ rfl ?_; intro g4 c4 w4 hrow4 hg4 hat4 hlt4; have HR4 := Lib.hid hrow4; have M4 := Lib.hid (((Moves.refl (fun i => Value.ownBlock (.slice none 0 0) = some i) wr).alloc (.cells #[.int .u8 ((x : Int))] 5)).grown hg4 (fun _ hi => .inl hi)); have B4 := Lib.hid ((HB.out.alloc HB.out.size (.cells #[.int .u8 ((x : Int))] 5)).grown hg4 (by rw [World.size_alloc]; omega) (fun j hj => Nat.le_of_succ_le (HR.out.lt j hj).1)); clear hrow4 hg4 hat4))
          have hh4 := HH.out.moves M4.out (fun e => by have := (HR.out.lt _ e).1; omega)
          go_roundw
          case rel => exact ⟨k + 1, by omega, by go_num, by rw [← HX.out]; exact HR4.out, fun e => absurd e (by omega), hh4, B4.out⟩
          case measure => simp [intOf]; try omega
      · rw [if_neg hk0] at hst
        obtain ⟨g, c, rfl, hgg⟩ := hrow.form (by omega)
        have HR := Lib.hid hrow
        clear hrow hv0 hgg
        have q0 : ((k : Int) == 0) = false := by rw [beq_eq_false_iff_ne]; omega
        by_cases hkm : k = m - 1
        · rw [if_pos hkm] at hst
          have q2 : ((k : Int) == (m : Int) - 1) = true := by rw [beq_iff_eq]; omega
          clear hkm
          by_cases hr : r = 0
          · rw [if_pos hr] at hst
            subst hr
            have HX : Hid (XS ++ [.int .u8 ((x : Int) + 1)] = byteCells ((modL n m).take (k + 1))) := hst
            clear hst
            go_wp2_with (first
              | (at_builtin; refine wpList_append_lies _ rfl _ _ 85 rfl (w.heap.size + 1) 5 i0 (.int .u8 0) 1 1 Tryd.underlying85 hi hz0 hz1 hz2 rfl (by decide) _ k XS rfl (HR.out.alloc _) ⟨wr.heap.size, 0, none⟩ 1 1 [.int .u8 ((x : Int) + 1)] rfl rfl (cell_one_new wr _ _) (by simp [Value.oneCell']) (by decide) (by unfold maxLen; omega) (by omega) (by rw [World.size_alloc]; omega) _ rfl ?_; intro g4 c4 w4 hrow4 hg4 hat4 hlt4; have HR4 := Lib.hid hrow4; have M4 := Lib.hid (((Moves.refl (fun i => Value.ownBlock (.slice (some ⟨g, 0, none⟩) k c) = some i) wr).alloc (.cells #[.int .u8 ((x : Int) + 1)] 5)).grown hg4 (fun _ hi => .inl hi)); have B4 := Lib.hid ((HB.out.alloc HB.out.size (.cells #[.int .u8 ((x : Int) + 1)] 5)).grown hg4 (by rw [World.size_alloc]; omega) (fun j hj => Nat.le_of_succ_le (HR.out.lt j hj).1)); clear hrow4 hg4 hat4))
            have hh4 := HH.out.moves M4.out (fun e => by have := (HR.out.lt _ e).1; omega)
            go_roundw
            case rel => exact ⟨k + 1, by omega, by go_num, by rw [← HX.out]; exact HR4.out, fun e => absurd e (by omega), hh4, B4.out⟩
            case measure => simp [intOf]; try omega
          · rw [if_neg hr] at hst
            have q3 : ((r : Int) == 0) = false := by rw [beq_eq_false_iff_ne]; omega
            have HX := Lib.hid hst
            clear hst
            go_wp2_with (first
              | (at_builtin; refine wpList_append_lies _ rfl _ _ 85 rfl (w.heap.size + 1) 5 i0 (.int .u8 0) 1 1 Tryd.underlying85 hi hz0 hz1 hz2 rfl (by decide) _ k XS rfl (HR.out.alloc _) ⟨wr.heap.size, 0, none⟩ 1 1 [.int .u8 ((x : Int))] rfl rfl (cell_one_new wr _ _) (by simp [Value.oneCell']) (by decide) (by unfold maxLen; omega) (by omega) (by rw [World.size_alloc]; omega) _ rfl ?_; intro g4 c4 w4 hrow4 hg4 hat4 hlt4; have HR4 := Lib.hid hrow4; have M4 := Lib.hid (((Moves.refl (fun i => Value.ownBlock (.slice (some ⟨g, 0, none⟩) k c) = some i) wr).alloc (.cells #[.int .u8 ((x : Int))] 5)).grown hg4 (fun _ hi => .inl hi)); have B4 := Lib.hid ((HB.out.alloc HB.out.size (.cells #[.int .u8 ((x : Int))] 5)).grown hg4 (by rw [World.size_alloc]; omega) (fun j hj => Nat.le_of_succ_le (HR.out.lt j hj).1)); clear hrow4 hg4 hat4))
            have hh4 := HH.out.moves M4.out (fun e => by have := (HR.out.lt _ e).1; omega)
            go_roundw
            case rel => exact ⟨k + 1, by omega, by go_num, by rw [← HX.out]; exact HR4.out, fun e => absurd e (by omega), hh4, B4.out⟩
            case measure => simp [intOf]; try omega
        · rw [if_neg hkm] at hst
          have q2 : ((k : Int) == (m : Int) - 1) = false := by rw [beq_eq_false_iff_ne]; omega
          have HX := Lib.hid hst
          clear hst ht4
          go_wp2_with (first
            | (at_builtin; refine wpList_append_lies _ rfl _ _ 85 rfl (w.heap.size + 1) 5 i0 (.int .u8 0) 1 1 Tryd.underlying85 hi hz0 hz1 hz2 rfl (by decide) _ k XS rfl (HR.out.alloc _) ⟨wr.heap.size, 0, none⟩ 1 1 [.int .u8 ((x : Int))] rfl rfl (cell_one_new wr _ _) (by simp [Value.oneCell']) (by decide) (by unfold maxLen; omega) (by omega) (by rw [World.size_alloc]; omega) _ rfl ?_; intro g4 c4 w4 hrow4 hg4 hat4 hlt4; have HR4 := Lib.hid hrow4; have M4 := Lib.hid (((Moves.refl (fun i => Value.ownBlock (.slice (some ⟨g, 0, none⟩) k c) = some i) wr).alloc (.cells #[.int .u8 ((x : Int))] 5)).grown hg4 (fun _ hi => .inl hi)); have B4 := Lib.hid ((HB.out.alloc HB.out.size (.cells #[.int .u8 ((x : Int))] 5)).grown hg4 (by rw [World.size_alloc]; omega) (fun j hj => Nat.le_of_succ_le (HR.out.lt j hj).1)); clear hrow4 hg4 hat4))
          have hh4 := HH.out.moves M4.out (fun e => by have := (HR.out.lt _ e).1; omega)
          go_roundw
          case rel => exact ⟨k + 1, by omega, by go_num, by rw [← HX.out]; exact HR4.out, fun e => absurd e (by omega), hh4, B4.out⟩
          case measure => simp [intOf]; try omega
    · obtain rfl : k = m := by omega
      rw [List.take_of_length_le (by rw [modL_len]; omega)] at hrow
      obtain ⟨g, c, rfl, hgg⟩ := hrow.form (by omega)
      have hcv := run_string_own hrow
      have HB := Lib.hid hb
      have HE : Hid ((⟨(modL n k).toArray⟩ : ByteArray) = bs (modL n k)) := rfl
      have z0 := hbox.cell 0
      have z1 := hbox.cell 1
      have s0 := hbox.frozen 0
      have s1 := hbox.frozen 1
      have hset := (hbox.set 0 (.string ⟨(modL n k).toArray⟩)).set 1 (.string ⟨#[2]⟩)
      have HS : Hid (Holds ((wr.setCell ⟨w.heap.size, 0, none⟩ (.string ⟨(modL n k).toArray⟩)).setCell ⟨w.heap.size, 1, none⟩ (.string ⟨#[2]⟩)) w.heap.size 51 #[.string ⟨(modL n k).toArray⟩, .string ⟨#[2]⟩]) := hset
      clear hrow hb hbox HA hset hv0 hgg
      generalize (⟨(modL n k).toArray⟩ : ByteArray) = R at *
      go_wp2_with fail
      refine bodyPost_ret (results_cell_row rfl _ _ w.heap.size _ _ (0, 0) _ rfl HS.out Tryd.underlying51 rfl (by kernel_rfl)) rfl ⟨by rw [← HE.out], (HB.out.setCell (by simp) _).setCell (by simp) _⟩
end Go.Proofs.YtihkhcocfhbekaaDoor
