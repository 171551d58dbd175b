/- Layer 11: what is too long: the law FrameLong. -/
import Derived.Test.YtplplhaofedjcaaFr7
namespace Go.Proofs.Ytplplhaofedjcaa
open Go.RowKit

def frZ (k : Nat) : List UInt8 := List.replicate k 0
theorem frZ_length (k : Nat) : (frZ k).length = k := by simp [frZ]
theorem frZ_some {k : Nat} (h : 0 < k) : frZ k ≠ [] := by intro e; have := frZ_length k; rw [e] at this; simp at this; omega
theorem frNeedP_long {k : Nat} (h1 : 262144 < k) (h2 : k ≤ 1000000) : frNeedP (cnt (frZ k)) = (0, 2) := by
  unfold frNeedP
  rw [frHd_cnt _ (by rw [frZ_length]; omega), cnt_take, num4_pack _ (by rw [frZ_length]; omega), cnt_length, frZ_length, if_neg (by omega), if_neg (by omega), if_neg (by omega), if_pos h1]
theorem frUnpackP_long : frUnpackP (cnt ([4] ++ frZ 40003)) = ([], 2) := by
  have hL : ([4] ++ frZ 40003).length = 40004 := by rw [List.length_append, frZ_length]; rfl
  have hh : frHd ([4] ++ frZ 40003) = 4 := rfl
  unfold frUnpackP
  rw [frBodyP_cnt _ (by omega) (by omega), if_neg (by simp)]
  have hb : frBad (cnt ([4] ++ frZ 40003)) ([4] ++ frZ 40003) = false := by
    unfold frBad
    rw [cnt_length, hh, hL]
    rfl
  rw [hb, hh, hL, if_neg (by simp), if_pos (by omega)]
def frMk (k : Nat) : Array Value := (byteCells (List.replicate k 0)).toArray
theorem frMk_run (k : Nat) (hk : k ≤ 1000000) (W : World) : (Instr.makeSlice 30 (.int .i64 (k : Int)) (.int .i64 (k : Int))).run Try.prog W = .ok (.slice (some ⟨W.heap.size, 0, none⟩) k k) (W.alloc (.cells (frMk k) 5)) := frMake k hk W
theorem frMk_str (k : Nat) (hk : k ≤ 1000000) (W : World) : (convert 30 9 (.slice (some ⟨W.heap.size, 0, none⟩) k k)).run Try.prog (W.alloc (.cells (frMk k) 5)) = .ok (.string (bs (frZ k))) (W.alloc (.cells (frMk k) 5)) :=
  frString (l := frZ k) (by rw [frZ_length]; exact hk) (Holds.new W _ _) k (frZ_length k).symm

theorem frStep {w a b : World} (h : Below w.heap.size w a) (k : Below a.heap.size a b) : Below w.heap.size w b := h.trans (k.mono h.size)
theorem frMade {w a : World} (h : Below w.heap.size w a) (o : Obj) : Below w.heap.size w (a.alloc o) := h.alloc h.size o

set_option maxHeartbeats 1000000 in
set_option maxRecDepth 100000 in
theorem FrameLong_walk (a b : Nat) (ha : a ≤ 255) (hb : b ≤ 255) (w : World) : Calls Try.prog 5 #[.int .u8 a, .int .u8 b] w fun e w' => e = .returned (.bool true) ∧ Below w.heap.size w w' := by
  obtain ⟨k, hk, hk1, hk2⟩ : ∃ k : Nat, 32760 + (a : Int) % 16 = (k : Int) ∧ 32760 ≤ k ∧ k ≤ 32775 := ⟨32760 + a % 16, by omega, by omega, by omega⟩
  obtain ⟨j, hj, hj1, hj2⟩ : ∃ j : Nat, 262140 + (b : Int) % 11 = (j : Int) ∧ 262140 ≤ j ∧ j ≤ 262150 := ⟨262140 + b % 11, by omega, by omega, by omega⟩
  have mk := frMk_run k (by omega)
  have cv := frMk_str k (by omega)
  have mj := frMk_run j (by omega)
  have cj := frMk_str j (by omega)
  have lk := frZ_length k
  have lj := frZ_length j
  have HA := Lib.hid (fun W => awake11_any W)
  have HZ : Hid (bs ([] : List UInt8) = ⟨#[]⟩) := rfl
  have hP := fun W => frPack_any (frZ k) (by omega) W
  have hU := fun W => frUnit_any (frZ j) (by omega) W
  have HRP := Lib.hid (fun W => rfPack_any (frZ k) (by omega) W)
  have HRU := Lib.hid (fun W => rfUnit_any (frZ j) (by omega) W)
  have hzj := bs_size (cnt (frZ j))
  rw [cnt_length, lj] at hzj
  have hN := fun W => frNeed_any (cnt (frZ j)) (by rw [cnt_length]; omega) W
  have m4 : ∀ W : World, (Instr.makeSlice 30 (.int .i64 40003) (.int .i64 40003)).run Try.prog W = .ok (.slice (some ⟨W.heap.size, 0, none⟩) 40003 40003) (W.alloc (.cells (frMk 40003) 5)) := frMk_run 40003 (by omega)
  have c4 := frMk_str 40003 (by omega)
  have l4 := frZ_length 40003
  have g4 : ∀ W : World, (Op.stringOp .add ⟨#[4]⟩ (bs (frZ 40003))).run Try.prog W = .ok (.string (bs ([4] ++ frZ 40003))) W := frAdd [4] (frZ 40003) (by simp; omega)
  have HU4 := Lib.hid (fun W => rfUnit_any ([4] ++ frZ 40003) (by simp; omega) W)
  have hY : ∀ W : World, Calls Try.prog 10 #[.string (bs (cnt ([4] ++ frZ 40003)))] W fun e w' => e = .returned (.tuple #[.string (bs (frUnpackP (cnt ([4] ++ frZ 40003))).1), .int .i64 ((frUnpackP (cnt ([4] ++ frZ 40003))).2 : Int)]) ∧ Below W.heap.size W w' := fun W => frUnpack_any _ (by rw [cnt_length]; simp; omega) W
  rw [frUnpackP_long] at hY
  have hPk : (32768 < k ∧ frPackP (frZ k) = ([], 2)) ∨ (k ≤ 32768 ∧ frPackP (frZ k) = (cnt (frBuf (frZ k)), 0)) := by
    by_cases h : 32768 < k
    · exact .inl ⟨h, (if_neg (frZ_some (by omega))).trans (if_pos (by omega))⟩
    · exact .inr ⟨by omega, (if_neg (frZ_some (by omega))).trans (if_neg (by omega))⟩
  have hUj : (262144 < j ∧ frUnitP (frZ j) = ([], 2) ∧ frNeedP (cnt (frZ j)) = (0, 2)) ∨ (j ≤ 262144 ∧ frUnitP (frZ j) = (cnt (frZ j), 0)) := by
    by_cases h : 262144 < j
    · exact .inl ⟨h, (if_neg (frZ_some (by omega))).trans (if_pos (by omega)), frNeedP_long h (by omega)⟩
    · exact .inr ⟨by omega, (if_neg (frZ_some (by omega))).trans (if_neg (by omega))⟩
  have HPK := Lib.hid hPk
  have HUJ := Lib.hid hUj
  clear hPk hUj lk lj l4
  generalize frMk k = Zk at *
  generalize frMk j = Zj at *
  generalize frMk 40003 = Z4 at *
  have HY : Hid (∀ W : World, Calls Try.prog 10 #[.string (bs (cnt ([4] ++ frZ 40003)))] W fun e w' => e = .returned (.tuple #[.string ⟨#[]⟩, .int .i64 2]) ∧ Below W.heap.size W w') := hY
  clear hY
  generalize bs (cnt ([4] ++ frZ 40003)) = U4 at *
  generalize bs ([4] ++ frZ 40003) = B4 at *
  generalize bs (frZ 40003) = T4 at *
  rcases HPK.out with ⟨h1, e1⟩ | ⟨h1, e1⟩
  · rw [e1] at hP
    have HP : Hid (∀ W : World, Calls Try.prog 8 #[.string (bs (frZ k))] W fun e w' => e = .returned (.tuple #[.string ⟨#[]⟩, .int .i64 2]) ∧ Below W.heap.size W w') := hP
    have q1 : decide ((k : Int) > 32768) = true := decide_eq_true (by omega)
    have q2 : decide ((k : Int) ≤ 32768) = false := decide_eq_false (by omega)
    clear hP e1 HPK HRP
    generalize bs (frZ k) = Tk at *
    rcases HUJ.out with ⟨h2, e2, e3⟩ | ⟨h2, e2⟩
    · rw [e2] at hU
      rw [e3] at hN
      have HU : Hid (∀ W : World, Calls Try.prog 9 #[.string (bs (frZ j))] W fun e w' => e = .returned (.tuple #[.string ⟨#[]⟩, .int .i64 2]) ∧ Below W.heap.size W w') := hU
      have HN : Hid (∀ W : World, Calls Try.prog 12 #[.string (bs (cnt (frZ j)))] W fun e w' => e = .returned (.tuple #[.int .i64 0, .int .i64 2]) ∧ Below W.heap.size W w') := hN
      have q3 : decide ((j : Int) > 262144) = true := decide_eq_true (by omega)
      clear hU hN e2 e3 HUJ
      generalize bs (cnt (frZ j)) = Uj at *
      generalize bs (frZ j) = Tj at *
      go_enter Try.func5, Try.ntmps5
      go_wp2_with (first
        | (go_at_call 8; refine (HP.out _).mono ?_; rintro e w1 ⟨rfl, x1⟩)
        | (go_at_call 9; refine (HU.out _).mono ?_; rintro e w2 ⟨rfl, x2⟩)
        | (go_at_call 14; refine (HRU.out _).mono ?_; rintro e w3 ⟨rfl, x3⟩)
        | (go_at_call 12; refine (HN.out _).mono ?_; rintro e w4 ⟨rfl, x4⟩)
        | (go_at_call 7; refine (HA.out _).mono ?_; rintro e w5 ⟨rfl, x5⟩))
      go_ret
      exact ⟨rfl, frStep (frStep (frStep (frMade (frStep (frMade (frStep (frMade (Below.refl _ _) _) x1) _) x2) _) x3) x4) x5⟩
    · rw [e2] at hU
      have HU : Hid (∀ W : World, Calls Try.prog 9 #[.string (bs (frZ j))] W fun e w' => e = .returned (.tuple #[.string (bs (cnt (frZ j))), .int .i64 0]) ∧ Below W.heap.size W w') := hU
      have q3 : decide ((j : Int) > 262144) = false := decide_eq_false (by omega)
      clear hU hN e2 HUJ HRU
      have hjn : ((j + 4 : Nat) : Int) = (j : Int) + 4 := by omega
      generalize bs (cnt (frZ j)) = Uj at *
      generalize bs (frZ j) = Tj at *
      obtain ⟨m, hm⟩ : ∃ m, m = j + 4 := ⟨_, rfl⟩
      rw [← hm] at hzj hjn
      have hjn2 : (j : Int) + 4 = (m : Int) := hjn.symm
      clear hjn
      have hm1 : m ≤ 262154 := by omega
      clear hm
      go_enter Try.func5, Try.ntmps5
      go_wp2_with (first
        | (go_at_call 8; refine (HP.out _).mono ?_; rintro e w1 ⟨rfl, x1⟩)
        | (go_at_call 9; refine (HU.out _).mono ?_; rintro e w2 ⟨rfl, x2⟩)
        | (go_at_call 14; refine (HU4.out _).mono ?_; rintro e w3 ⟨rfl, x3⟩)
        | (go_at_call 10; refine (HY.out _).mono ?_; rintro e w4 ⟨rfl, x4⟩)
        | (go_at_call 7; refine (HA.out _).mono ?_; rintro e w5 ⟨rfl, x5⟩))
      go_ret
      exact ⟨rfl, frStep (frStep (frStep (frMade (frStep (frMade (frStep (frMade (Below.refl _ _) _) x1) _) x2) _) x3) x4) x5⟩
  · rw [e1] at hP
    have HP : Hid (∀ W : World, Calls Try.prog 8 #[.string (bs (frZ k))] W fun e w' => e = .returned (.tuple #[.string (bs (cnt (frBuf (frZ k)))), .int .i64 0]) ∧ Below W.heap.size W w') := hP
    have q1 : decide ((k : Int) > 32768) = false := decide_eq_false (by omega)
    have q2 : decide ((k : Int) ≤ 32768) = true := decide_eq_true (by omega)
    clear hP e1 HPK
    generalize bs (cnt (frBuf (frZ k))) = Ck at *
    generalize bs (frZ k) = Tk at *
    rcases HUJ.out with ⟨h2, e2, e3⟩ | ⟨h2, e2⟩
    · rw [e2] at hU
      rw [e3] at hN
      have HU : Hid (∀ W : World, Calls Try.prog 9 #[.string (bs (frZ j))] W fun e w' => e = .returned (.tuple #[.string ⟨#[]⟩, .int .i64 2]) ∧ Below W.heap.size W w') := hU
      have HN : Hid (∀ W : World, Calls Try.prog 12 #[.string (bs (cnt (frZ j)))] W fun e w' => e = .returned (.tuple #[.int .i64 0, .int .i64 2]) ∧ Below W.heap.size W w') := hN
      have q3 : decide ((j : Int) > 262144) = true := decide_eq_true (by omega)
      clear hU hN e2 e3 HUJ
      generalize bs (cnt (frZ j)) = Uj at *
      generalize bs (frZ j) = Tj at *
      go_enter Try.func5, Try.ntmps5
      go_wp2_with (first
        | (go_at_call 8; refine (HP.out _).mono ?_; rintro e w1 ⟨rfl, x1⟩)
        | (go_at_call 9; refine (HU.out _).mono ?_; rintro e w2 ⟨rfl, x2⟩)
        | (go_at_call 13; refine (HRP.out _).mono ?_; rintro e w6 ⟨rfl, x6⟩)
        | (go_at_call 14; refine (HRU.out _).mono ?_; rintro e w3 ⟨rfl, x3⟩)
        | (go_at_call 12; refine (HN.out _).mono ?_; rintro e w4 ⟨rfl, x4⟩)
        | (go_at_call 7; refine (HA.out _).mono ?_; rintro e w5 ⟨rfl, x5⟩))
      go_ret
      exact ⟨rfl, frStep (frStep (frStep (frMade (frStep (frMade (frStep (frMade (frStep (frMade (Below.refl _ _) _) x1) _) x2) _) x6) _) x3) x4) x5⟩
    · rw [e2] at hU
      have HU : Hid (∀ W : World, Calls Try.prog 9 #[.string (bs (frZ j))] W fun e w' => e = .returned (.tuple #[.string (bs (cnt (frZ j))), .int .i64 0]) ∧ Below W.heap.size W w') := hU
      have q3 : decide ((j : Int) > 262144) = false := decide_eq_false (by omega)
      clear hU hN e2 HUJ HRU
      have hjn : ((j + 4 : Nat) : Int) = (j : Int) + 4 := by omega
      generalize bs (cnt (frZ j)) = Uj at *
      generalize bs (frZ j) = Tj at *
      obtain ⟨m, hm⟩ : ∃ m, m = j + 4 := ⟨_, rfl⟩
      rw [← hm] at hzj hjn
      have hjn2 : (j : Int) + 4 = (m : Int) := hjn.symm
      clear hjn
      have hm1 : m ≤ 262154 := by omega
      clear hm
      go_enter Try.func5, Try.ntmps5
      go_wp2_with (first
        | (go_at_call 8; refine (HP.out _).mono ?_; rintro e w1 ⟨rfl, x1⟩)
        | (go_at_call 9; refine (HU.out _).mono ?_; rintro e w2 ⟨rfl, x2⟩)
        | (go_at_call 13; refine (HRP.out _).mono ?_; rintro e w6 ⟨rfl, x6⟩)
        | (go_at_call 14; refine (HU4.out _).mono ?_; rintro e w3 ⟨rfl, x3⟩)
        | (go_at_call 10; refine (HY.out _).mono ?_; rintro e w4 ⟨rfl, x4⟩)
        | (go_at_call 7; refine (HA.out _).mono ?_; rintro e w5 ⟨rfl, x5⟩))
      go_ret
      exact ⟨rfl, frStep (frStep (frStep (frMade (frStep (frMade (frStep (frMade (frStep (frMade (Below.refl _ _) _) x1) _) x2) _) x6) _) x3) x4) x5⟩
end Go.Proofs.Ytplplhaofedjcaa
