/- Layer 11: the document's Pack. -/
import Derived.Test.YtplplhaofedjcaaFr5
import Derived.Laws.Concat
import Derived.Deep.RegionWith
namespace Go.Proofs.Ytplplhaofedjcaa
open Go.RowKit

theorem frAdd (a b : List UInt8) (h : a.length + b.length ≤ 1000000) (W : World) : (Op.stringOp .add (bs a) (bs b)).run Try.prog W = .ok (.string (bs (a ++ b))) W := by
  have h1 := bs_size a
  have h2 := bs_size b
  have := run_string_add_sum (P := Try.prog) W (bs a) (bs b) (by omega)
  rw [this, bs_append]
theorem frOne (c : UInt8) (W : World) (g : Nat) (h : Holds W g 5 #[.int .u8 (c.toNat : Int)]) : (convert 30 9 (.slice (some ⟨g, 0, none⟩) 1 1)).run Try.prog W = .ok (.string (bs [c])) W :=
  run_string_own (base := 0) (l := [c]) ⟨by simp [byteCells], .inr ⟨g, 1, _, rfl, Nat.zero_le _, h, Nat.le_refl _, by unfold maxLen; omega, by simp, by simp [byteCells]⟩⟩
theorem frPadP_least (n k : Nat) (h4 : 4 ≤ k) (hk : k < frPadP n) : (5 + n + k) % 8 ≠ 0 := by
  unfold frPadP at hk
  split at hk <;> omega

set_option maxRecDepth 100000 in
theorem rfZeros_any (k : Nat) (hk : k ≤ 1000000) (w : World) : Calls Try.prog 23 #[.int .i64 k] w fun e w' => e = .returned (.string (bs (List.replicate k 0))) ∧ Below w.heap.size w w' := by
  have hmk := frMake k hk
  have hcv := frString (W := w.alloc (.cells (byteCells (List.replicate k 0)).toArray 5)) (X := w.heap.size) (l := List.replicate k 0) (by simpa using hk) (Holds.new w _ _) k (by simp)
  generalize (byteCells (List.replicate k 0)).toArray = Z at *
  generalize bs (List.replicate k 0) = T at *
  go_enter Try.func23, Try.ntmps23
  go_wp2_with fail
  go_ret
  exact ⟨rfl, (Below.refl _ _).alloc (Nat.le_refl _) _⟩

set_option maxHeartbeats 4000000 in
set_option maxRecDepth 100000 in
theorem rfPack_any (l : List UInt8) (hl : l.length ≤ 100000) (w : World) : Calls Try.prog 13 #[.string (bs l)] w fun e w' => e = .returned (.string (bs (cnt (frBuf l)))) ∧ Below w.heap.size w w' := by
  have hsz := bs_size l
  obtain ⟨p1, p2, p3⟩ := frPadP_facts l.length
  have HL := Lib.hid (frPadP_least l.length)
  have HB : frBuf l = UInt8.ofNat (frPadP l.length) :: (l ++ List.replicate (frPadP l.length) 0) := rfl
  generalize frPadP l.length = p at *
  have hB : frBuf l = [UInt8.ofNat p] ++ l ++ List.replicate p 0 := by rw [HB]; simp
  have hbl : (frBuf l).length = 1 + l.length + p := by rw [HB]; simp; omega
  have g1 := frAdd [UInt8.ofNat p] l (by simp; omega)
  have g2 := frAdd ([UInt8.ofNat p] ++ l) (List.replicate p 0) (by simp; omega)
  rw [← hB] at g2
  have HZ := Lib.hid (fun W => rfZeros_any p (by omega) W)
  have HU := Lib.hid (fun W => rfUnit_any (frBuf l) (by omega) W)
  have hcv := frOne (UInt8.ofNat p)
  have hpn : (UInt8.ofNat p).toNat = p := by simp; omega
  rw [hpn] at hcv
  clear HB hB hbl hpn
  generalize bs (cnt (frBuf l)) = C at *
  generalize bs (frBuf l) = F at *
  generalize bs ([UInt8.ofNat p] ++ l) = E1 at *
  generalize bs [UInt8.ofNat p] = P1 at *
  generalize bs (List.replicate p 0) = Z at *
  generalize bs l = S at *
  have hle : S.size ≤ 100000 := by omega
  go_enter Try.func13, Try.ntmps13
  go_wp2_with fail
  have hcn : ∀ W : World, (convert 30 9 (.slice (some ⟨W.heap.size, 0, none⟩) 1 1)).run Try.prog (W.alloc (.cells #[.int .u8 (p : Int)] 5)) = .ok (.string P1) (W.alloc (.cells #[.int .u8 (p : Int)] 5)) := fun W => hcv _ _ (Holds.new W _ _)
  have hcn2 : ∀ W : World, (convert 30 9 (.slice (some ⟨W.heap.size, 0, none⟩) 1 1)).run Try.prog ((W.alloc (.cells #[.int .u8 (p : Int)] 5)).drew) = .ok (.string P1) ((W.alloc (.cells #[.int .u8 (p : Int)] 5)).drew) := fun W => hcv _ _ (show Holds _ _ _ _ from Holds.new W _ _)
  have HCV := Lib.hid hcv
  have HNW : Hid (∀ W : World, Holds ((W.alloc (.cells #[.int .u8 (p : Int)] 5)).drew) W.heap.size 5 #[.int .u8 (p : Int)]) := fun W => show Holds _ _ _ _ from Holds.new W _ _
  clear hcv
  have HG1 := Lib.hid g1
  have HG2 := Lib.hid g2
  have HC1 := Lib.hid hcn
  have HC2 := Lib.hid hcn2
  have H3 := Lib.hid p3
  clear g1 g2 hcn hcn2 p3
  go_loopw [3] (fun i wr => ∃ k : Nat, 4 ≤ k ∧ k ≤ p ∧ i = .int .i64 k ∧ wr = w) (fun i _ => p - (intOf i).toNat)
  case atStart => exact ⟨4, Nat.le_refl _, p1, rfl, rfl⟩
  case round =>
    obtain ⟨k, hk4, hkp, rfl, rfl⟩ := hrel
    by_cases hlt : k < p
    · have hne := HL.out k hk4 hlt
      have q : ((5 + (l.length : Int) + (k : Int)) % 8 != 0) = true := by rw [bne_iff_ne]; omega
      clear hne HL
      go_wp2_with fail
      go_roundw
      case rel => exact ⟨k + 1, by omega, by omega, by go_num, trivial⟩
      case measure => simp [intOf]; omega
    · obtain rfl : k = p := by omega
      have he := H3.out
      have q : ((5 + (l.length : Int) + (k : Int)) % 8 != 0) = false := by rw [bne_eq_false_iff_eq]; omega
      clear he HL hlt
      go_wp2_with fail
      have g1 := HG1.out
      have g2 := HG2.out
      have hcn := HC1.out
      have hcn2 := HC2.out
      clear q
      have hwk : IntKind.u8.wrap (k : Int) = k := by rw [IntKind.wrap_u8]; omega
      go_region_with
        (first
          | (go_at_call 23; with_reducible refine (HZ.out _).mono ?_; rintro e w1 ⟨rfl, b1⟩; (try have hk1 := HCV.out _ _ (Holds.moves (HNW.out wr) (Moves.ofBelow (S := nobody) b1) (fun h => h))))
          | (go_at_call 14; with_reducible refine (HU.out _).mono ?_; rintro e w2 ⟨rfl, b2⟩))
      all_goals
        go_wp2_with fail
        go_ret
        refine ⟨rfl, ?_⟩
        have z1 := b1.size
        have z2 := b2.size
        first
          | exact (((Below.refl wr.heap.size wr).drew.trans b1).alloc (by simpa using z1) _).trans (b2.mono (by simp at z1 ⊢; omega))
          | exact ((((Below.refl wr.heap.size wr).alloc (Nat.le_refl _) _).drew).trans (b1.mono (by simp))).trans (b2.mono (by simp at z1 ⊢; omega))
          | fail
end Go.Proofs.Ytplplhaofedjcaa
