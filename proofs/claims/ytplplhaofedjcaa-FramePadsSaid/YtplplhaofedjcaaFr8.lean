/- Layer 11: whatever the padding is: the law FramePads. -/
import Derived.Test.YtplplhaofedjcaaFr7
namespace Go.Proofs.Ytplplhaofedjcaa
open Go.RowKit

def frRow (p : Nat) (c : UInt8) (k : Nat) : List UInt8 := List.replicate k c ++ List.replicate (p - k) 0
theorem frRow_length {p k : Nat} (c : UInt8) (h : k ≤ p) : (frRow p c k).length = p := by simp [frRow]; omega
theorem frRow_at {p k : Nat} (c : UInt8) (h : k < p) : (byteCells (frRow p c k)).toArray[k]? = some (.int .u8 0) := by
  simp [byteCells, frRow, List.getElem?_append_right]
  rw [List.getElem?_replicate, if_pos (by omega)]
theorem frRow_set {p k : Nat} (c : UInt8) (h : k < p) : (byteCells (frRow p c k)).toArray.setIfInBounds k (.int .u8 (c.toNat : Int)) = (byteCells (frRow p c (k + 1))).toArray := by
  obtain ⟨m, hm⟩ : ∃ m, p - k = m + 1 := ⟨p - k - 1, by omega⟩
  have hm2 : p - (k + 1) = m := by omega
  rw [List.setIfInBounds_toArray]
  congr 1
  have e1 : byteCells (frRow p c k) = List.replicate k (.int .u8 (c.toNat : Int)) ++ (.int .u8 0 :: List.replicate m (.int .u8 0)) := by
    simp [byteCells, frRow, hm, List.replicate_succ]
  have e2 : byteCells (frRow p c (k + 1)) = List.replicate k (.int .u8 (c.toNat : Int)) ++ (.int .u8 (c.toNat : Int) :: List.replicate m (.int .u8 0)) := by
    simp [byteCells, frRow, hm2, List.replicate_succ', List.append_assoc]
  rw [e1, e2, List.set_append, if_neg (by simp)]
  simp
theorem frRow_end (p : Nat) (c : UInt8) : frRow p c p = List.replicate p c := by simp [frRow]

def frPads (l : List UInt8) (p c : UInt8) : List UInt8 := [p] ++ l ++ List.replicate p.toNat c
theorem frPads_length (l : List UInt8) (p c : UInt8) : (frPads l p c).length = 1 + l.length + p.toNat := by simp [frPads]; omega
theorem frPads_unpack (l : List UInt8) (p c : UInt8) (hl : l.length ≤ 300) :
    frUnpackP (cnt (frPads l p c)) = if (5 + l.length + p.toNat) % 8 ≠ 0 ∨ p.toNat < 4 ∨ 64 < p.toNat ∨ l.length = 0 then ([], 3) else (l, 0) := by
  have hp := UInt8.toNat_lt p
  have hL := frPads_length l p c
  have hh : frHd (frPads l p c) = p.toNat := rfl
  unfold frUnpackP
  rw [frBodyP_cnt _ (by omega) (by omega), if_neg (by simp)]
  have hb : frBad (cnt (frPads l p c)) (frPads l p c) = decide ((5 + l.length + p.toNat) % 8 ≠ 0 ∨ p.toNat < 4 ∨ 64 < p.toNat ∨ l.length = 0) := by
    unfold frBad
    rw [cnt_length, hh, hL]
    congr 1
    apply propext
    have e : 1 + l.length + p.toNat + 4 = 5 + l.length + p.toNat := by omega
    rw [e]
    constructor <;> (rintro (h | h | h | h) <;> omega)
  rw [hb]
  by_cases h : (5 + l.length + p.toNat) % 8 ≠ 0 ∨ p.toNat < 4 ∨ 64 < p.toNat ∨ l.length = 0
  · rw [decide_eq_true h, if_pos rfl, if_pos h]
  · rw [decide_eq_false h, if_neg (by simp), if_neg h, hh, hL, if_neg (by omega)]
    have e : (frPads l p c).drop 1 = l ++ List.replicate p.toNat c := rfl
    rw [e, show 1 + l.length + p.toNat - 1 - p.toNat = l.length by omega, List.take_left' rfl]

set_option maxHeartbeats 1000000 in
set_option maxRecDepth 100000 in
theorem FramePads_small (l : List UInt8) (p c : UInt8) (hl : l.length ≤ 300) (w : World) : Calls Try.prog 6 #[.string (bs l), .int .u8 (p.toNat : Int), .int .u8 (c.toNat : Int)] w fun e w' => e = .returned (.bool true) ∧ Below w.heap.size w w' := by
  have hsz := bs_size l
  have q : decide ((l.length : Int) > 300) = false := decide_eq_false (by omega)
  have hp := UInt8.toNat_lt p
  have hL := frPads_length l p c
  have hC := cnt_length (frPads l p c)
  have hU := frPads_unpack l p c hl
  have HB := Lib.hid (fun W => frUnpack_any (cnt (frPads l p c)) (by omega) W)
  have HRU := Lib.hid (fun W => rfUnit_any (frPads l p c) (by omega) W)
  have HA := Lib.hid (fun W => awake11_any W)
  have g1 := frAdd [p] l (by simp; omega)
  have g2 := frAdd ([p] ++ l) (List.replicate p.toNat c) (by simp; omega)
  have hcz := bs_size (cnt (frPads l p c))
  rw [hC, hL] at hcz
  have hmk := frMake p.toNat (by omega)
  have H0 := Lib.hid (fun W : World => (Holds.new W 5 (byteCells (frRow p.toNat c 0)).toArray))
  rw [show List.replicate p.toNat (0 : UInt8) = frRow p.toNat c 0 by simp [frRow]] at hmk
  have HAT := Lib.hid (fun (k : Nat) (h : k < p.toNat) => frRow_at c h)
  have HST := Lib.hid (fun (k : Nat) (h : k < p.toNat) => frRow_set c h)
  have HCV : Hid (∀ (W : World) (g : Nat), Holds W g 5 (byteCells (frRow p.toNat c p.toNat)).toArray → (convert 30 9 (.slice (some ⟨g, 0, none⟩) p.toNat p.toNat)).run Try.prog W = .ok (.string (bs (List.replicate p.toNat c))) W) := fun W g h => by
    rw [frRow_end] at h
    exact frString (by simp; omega) h p.toNat (by simp)
  have hone := frOne p
  have HZ : Hid (bs ([] : List UInt8) = ⟨#[]⟩) := rfl
  have e1 : ∀ x : List UInt8, [p] ++ l ++ List.replicate p.toNat c = x → x = frPads l p c := fun x h => h.symm
  have g2' : ∀ W : World, (Op.stringOp .add (bs ([p] ++ l)) (bs (List.replicate p.toNat c))).run Try.prog W = .ok (.string (bs (frPads l p c))) W := g2
  have HG1 := Lib.hid g1
  have HG2 := Lib.hid g2'
  have HONE := Lib.hid hone
  have hEm : (l.length = 0 ∧ (bs l).toList.isEmpty = true) ∨ (l.length ≠ 0 ∧ (bs l).toList.isEmpty = false) := by
    by_cases h : l.length = 0
    · exact .inl ⟨h, frEmpty_yes h⟩
    · exact .inr ⟨h, frEmpty_no h⟩
  have HEm := Lib.hid hEm
  have HUU := Lib.hid hU
  have hZ0 : ∀ k, k ≤ p.toNat → (byteCells (frRow p.toNat c k)).toArray.size = p.toNat := fun k hk => by rw [List.size_toArray, byteCells_length, frRow_length c hk]
  have HZ0 := Lib.hid hZ0
  clear hL hC g1 g2 g2' e1 hone hEm hU hZ0
  obtain ⟨R, hR⟩ : ∃ R : Nat → Array Value, R = fun k => (byteCells (frRow p.toNat c k)).toArray := ⟨_, rfl⟩
  have hR' : ∀ k, (byteCells (frRow p.toNat c k)).toArray = R k := fun k => by rw [hR]
  rw [hR'] at hmk
  simp only [hR'] at HAT HST HCV HZ0 H0
  clear hR hR'
  generalize bs (cnt (frPads l p c)) = U at *
  generalize bs (frPads l p c) = B at *
  generalize bs (List.replicate p.toNat c) = T at *
  generalize bs ([p] ++ l) = E1 at *
  generalize bs [p] = P1 at *
  obtain ⟨S, hS⟩ : ∃ S, S = bs l := ⟨_, rfl⟩
  have HS := Lib.hid hS
  rw [← hS] at hsz HG1 HEm ⊢
  clear hS
  obtain ⟨X, hX⟩ : ∃ X, X = frUnpackP (cnt (frPads l p c)) := ⟨_, rfl⟩
  rw [← hX] at HB HUU
  clear hX
  generalize p.toNat = n at *
  generalize c.toNat = cn at *
  have hle : S.size ≤ 300 := by omega
  go_enter Try.func6, Try.ntmps6
  go_wp2_with fail
  have hh0 := H0.out w
  clear hmk
  have hb0 : Below w.heap.size w (w.alloc (.cells (R 0) 5)) := (Below.refl _ _).alloc (Nat.le_refl _) _
  have hgt : w.heap.size < (w.alloc (.cells (R 0) 5)).heap.size := by simp
  generalize w.alloc (.cells (R 0) 5) = w0 at *
  have HH0 := Lib.hid hh0
  have HB0 := Lib.hid hb0
  clear hh0 hb0
  go_loopw [8] (fun i wr => ∃ k : Nat, k ≤ n ∧ i = .int .i64 k ∧ Holds wr w.heap.size 5 (R k) ∧ Below w.heap.size w wr) (fun i _ => n - (intOf i).toNat)
  case atStart => exact ⟨0, Nat.zero_le _, rfl, HH0.out, HB0.out⟩
  case round =>
    obtain ⟨k, hk, rfl, hH, hB⟩ := hrel
    by_cases hlt : k < n
    · have c1 := Holds.cell hH k
      rw [HAT.out k hlt] at c1
      have f1 := Holds.frozen hH k
      have HN := Lib.hid (Holds.set hH k (.int .u8 (cn : Int)))
      rw [HST.out k hlt] at HN
      have HBB := Lib.hid hB
      clear hH hB
      go_wp2_with fail
      go_roundw
      case rel => exact ⟨k + 1, by omega, by go_num, HN.out, HBB.out.setCell (by simp) _⟩
      case measure => simp [intOf]; omega
    · obtain rfl : k = n := by omega
      have hcv := HCV.out wr _ hH
      have hcv2 : (convert 30 9 (.slice (some ⟨w.heap.size, 0, none⟩) k k)).run Try.prog (wr.alloc (.cells #[.int .u8 (k : Int)] 5)) = .ok (.string T) (wr.alloc (.cells #[.int .u8 (k : Int)] 5)) :=
        HCV.out _ _ (Holds.moves hH ((Moves.refl (fun _ => False) wr).alloc _) (fun h => h))
      have hcn : ∀ W : World, (convert 30 9 (.slice (some ⟨W.heap.size, 0, none⟩) 1 1)).run Try.prog (W.alloc (.cells #[.int .u8 (k : Int)] 5)) = .ok (.string P1) (W.alloc (.cells #[.int .u8 (k : Int)] 5)) := fun W => HONE.out _ _ (Holds.new W _ _)
      have g1 := HG1.out
      have g2 := HG2.out
      have HBB := Lib.hid hB
      have hzw := hB.size
      clear hlt hH hB HH0 HB0
      obtain ⟨m, hm⟩ : ∃ m, m = 1 + l.length + k + 4 := ⟨_, rfl⟩
      rw [← hm] at hcz
      have hm3 : m ≤ 600 := by omega
      have hway : ((m : Int) % 8 != 0) = true ∧ X = ([], 3) ∨ ((m : Int) % 8 != 0) = false ∧ decide ((k : Int) < 4) = true ∧ X = ([], 3) ∨ ((m : Int) % 8 != 0) = false ∧ decide ((k : Int) < 4) = false ∧ decide ((k : Int) > 64) = true ∧ X = ([], 3) ∨
          ((m : Int) % 8 != 0) = false ∧ decide ((k : Int) < 4) = false ∧ decide ((k : Int) > 64) = false ∧ S.toList.isEmpty = true ∧ X = ([], 3) ∨
          ((m : Int) % 8 != 0) = false ∧ decide ((k : Int) < 4) = false ∧ decide ((k : Int) > 64) = false ∧ S.toList.isEmpty = false ∧ X = (l, 0) := by
        have hX := HUU.out
        by_cases a1 : m % 8 = 0
        · have b1 : ((m : Int) % 8 != 0) = false := by rw [bne_eq_false_iff_eq]; omega
          by_cases a2 : k < 4
          · exact .inr (.inl ⟨b1, decide_eq_true (by omega), by rw [hX, if_pos (by omega)]⟩)
          · have b2 : decide ((k : Int) < 4) = false := decide_eq_false (by omega)
            by_cases a3 : 64 < k
            · exact .inr (.inr (.inl ⟨b1, b2, decide_eq_true (by omega), by rw [hX, if_pos (by omega)]⟩))
            · have b3 : decide ((k : Int) > 64) = false := decide_eq_false (by omega)
              rcases HEm.out with ⟨z, e⟩ | ⟨z, e⟩
              · exact .inr (.inr (.inr (.inl ⟨b1, b2, b3, e, by rw [hX, if_pos (by omega)]⟩)))
              · exact .inr (.inr (.inr (.inr ⟨b1, b2, b3, e, by rw [hX, if_neg (by omega)]⟩)))
        · exact .inl ⟨by rw [bne_iff_ne]; omega, by rw [hX, if_pos (by omega)]⟩
      have HW := Lib.hid hway
      clear hway hm HUU HEm
      rcases HW.out with ⟨b1, hX⟩ | ⟨b1, b2, hX⟩ | ⟨b1, b2, b3, hX⟩ | ⟨b1, b2, b3, b4, hX⟩ | ⟨b1, b2, b3, b4, hX⟩
      all_goals
        rw [hX] at HB
        simp only [HZ.out, ← HS.out] at HB
        clear HW hX
        go_wp2_with (first
          | (go_at_call 14; refine (HRU.out _).mono ?_; rintro e w1 ⟨rfl, x1⟩)
          | (go_at_call 10; refine (HB.out _).mono ?_; rintro e w2 ⟨rfl, x2⟩)
          | (go_at_call 7; refine (HA.out _).mono ?_; rintro e w3 ⟨rfl, x3⟩))
        go_ret
        have z1 := x1.size
        have z2 := x2.size
        simp at z1
        exact ⟨rfl, (((HBB.out.alloc hzw _).trans (x1.mono (by simp; omega))).trans (x2.mono (by omega))).trans (x3.mono (by omega))⟩
end Go.Proofs.Ytplplhaofedjcaa
