/- Part 1 of what the statement wants. -/
import Derived.Laws.Slices
import Derived.Laws.EntriesVeiled
import Derived.LoopTactic
import Derived.Laws.NewBlocks
import Derived.BigRegion
import Derived.Deep.QuietTactic
import Derived.BigQuiet
import Derived.Test.YtlalkpgipenkaaaGreatDoorPk00
namespace Go.Proofs.YtlalkpgipenkaaaGreatDoor
open Go.RowKit

/-- Block R is a reader with these bytes left and this first error. -/
def WAt (w : World) (R : Nat) (rest : List UInt8) (err : Int) : Prop := Holds w R 195 #[.string (bs rest), .int .i64 err]
theorem err_any {w : World} {R : Nat} {rest : List UInt8} {err : Int} (h : WAt w R rest err) : Calls Tryz.prog 134 #[.pointer (some ⟨R, 0, none⟩)] w fun e w' => e = .returned (.int .i64 err) ∧ w' = w := by
  have c1 := Holds.cell h 1
  go_enter Tryz.func134, Tryz.ntmps134
  go_wp2
  go_ret
  exact ⟨rfl, rfl⟩
def fixedP (right : List UInt8 → Bool) (n : Int) (rest : List UInt8) (err : Int) : List UInt8 × List UInt8 × Int :=
  if err ≠ 0 then ([], rest, err) else if n < 0 ∨ (rest.length : Int) < n then ([], rest, 4) else if right (rest.take n.toNat) then (rest.take n.toNat, rest.drop n.toNat, 0) else ([], rest, 3)

theorem fixed_bad (F : Value) {w : World} {R : Nat} {rest : List UInt8} {err : Int} (h : WAt w R rest err) (n : Int) (right : List UInt8 → Bool) (hbad : err ≠ 0 ∨ n < 0 ∨ (rest.length : Int) < n) :
    Calls Tryz.prog 165 #[.pointer (some ⟨R, 0, none⟩), .int .i64 n, F] w fun e w' => e = .returned (.string (bs (fixedP right n rest err).1)) ∧ WAt w' R (fixedP right n rest err).2.1 (fixedP right n rest err).2.2 ∧ Moves (fun k => k = R) w w' := by
  have he := err_any h
  have c0 := Holds.cell h 0
  have c1 := Holds.cell h 1
  have f1 := Holds.frozen h 1
  have hsz := bs_size rest
  have H0 := Lib.hid h
  have HE : Hid (bs ([] : List UInt8) = ⟨#[]⟩) := rfl
  clear h
  by_cases h0 : err = 0
  · subst h0
    have h1 : n < 0 ∨ (rest.length : Int) < n := hbad.resolve_left (by simp)
    have HP : Hid (fixedP right n rest 0 = ([], rest, 4)) := by
      show fixedP right n rest 0 = _
      unfold fixedP
      rw [if_neg (by simp), if_pos h1]
    clear hbad
    generalize bs rest = S at *
    by_cases h2 : n < 0
    · go_enter Tryz.func165, Tryz.ntmps165
      go_wp2_with (go_at_call 134; refine he.mono ?_; rintro e w' ⟨rfl, rfl⟩)
      go_ret
      exact ⟨by rw [HP.out, HE.out]; rfl, by rw [HP.out]; exact Holds.set H0.out 1 _, (Moves.refl (fun k => k = R) _).setCell (p := ⟨R, 1, none⟩) (.inl rfl) _⟩
    · have h3 : (rest.length : Int) < n := h1.resolve_left h2
      go_enter Tryz.func165, Tryz.ntmps165
      go_wp2_with (go_at_call 134; refine he.mono ?_; rintro e w' ⟨rfl, rfl⟩)
      go_ret
      exact ⟨by rw [HP.out, HE.out]; rfl, by rw [HP.out]; exact Holds.set H0.out 1 _, (Moves.refl (fun k => k = R) _).setCell (p := ⟨R, 1, none⟩) (.inl rfl) _⟩
  · have HP : Hid (fixedP right n rest err = ([], rest, err)) := if_pos h0
    have hq : (err != 0) = true := by simpa using h0
    go_enter Tryz.func165, Tryz.ntmps165
    go_wp2_with (go_at_call 134; refine he.mono ?_; rintro e w' ⟨rfl, rfl⟩)
    go_ret
    exact ⟨by rw [HP.out, HE.out]; rfl, by rw [HP.out]; exact H0.out, Moves.refl _ _⟩

theorem fixed_any {w : World} {R : Nat} {rest : List UInt8} {err : Int} (h : WAt w R rest err) (hr : rest.length ≤ 1000000) (n : Int) (right : List UInt8 → Bool)
    (hF : 0 ≤ n → n ≤ (rest.length : Int) → ∀ W : World, Calls Tryz.prog 166 #[.string (bs (rest.take n.toNat))] W fun e w' => e = .returned (.bool (right (rest.take n.toNat))) ∧ w' = W) :
    Calls Tryz.prog 165 #[.pointer (some ⟨R, 0, none⟩), .int .i64 n, .func (.func 166) #[] #[]] w fun e w' => e = .returned (.string (bs (fixedP right n rest err).1)) ∧ WAt w' R (fixedP right n rest err).2.1 (fixedP right n rest err).2.2 ∧ Moves (fun k => k = R) w w' := by
  by_cases hbad : err ≠ 0 ∨ n < 0 ∨ (rest.length : Int) < n
  · exact fixed_bad _ h n right hbad
  · have he := err_any h
    have c0 := Holds.cell h 0
    have c1 := Holds.cell h 1
    have f1 := Holds.frozen h 1
    have f0 := Holds.frozen h 0
    have hsz := bs_size rest
    have H0 := Lib.hid h
    clear h
    obtain ⟨m, rfl⟩ : ∃ m : Nat, n = m := ⟨n.toNat, by omega⟩
    obtain rfl : err = 0 := by omega
    have hml : m ≤ rest.length := by omega
    have t1 := bs_take rest m
    have t2 := bs_drop rest m
    have hg := hF (by omega) (by omega)
    rw [Int.toNat_natCast] at hg
    have HP : Hid (fixedP right m rest 0 = if right (rest.take m) then (rest.take m, rest.drop m, 0) else ([], rest, 3)) := by
      show fixedP right m rest 0 = _
      unfold fixedP
      rw [if_neg (by simp), if_neg (by omega), Int.toNat_natCast]
    have HE : Hid (bs ([] : List UInt8) = ⟨#[]⟩) := rfl
    have hb : m ≤ (bs rest).size := by omega
    have hb2 : (bs rest).size ≤ 1000000 := by omega
    obtain ⟨St, hst⟩ : ∃ St, St = bs (rest.take m) := ⟨_, rfl⟩
    obtain ⟨Sd, hsd⟩ : ∃ Sd, Sd = bs (rest.drop m) := ⟨_, rfl⟩
    rw [← hst] at t1 hg
    rw [← hsd] at t2
    have HG := Lib.hid hg
    have HST := Lib.hid hst
    have HSD := Lib.hid hsd
    have HR : Hid (∀ (W : World) (r' : List UInt8) (S' : ByteArray), S' = bs r' → Holds (W) R 195 #[.string S', .int .i64 0] → WAt W R r' 0) := fun W r' S' hS hh => by subst hS; exact hh
    clear hF hbad hg hml hsz hst hsd
    generalize hS : bs rest = S at *
    have HS := Lib.hid hS
    clear hS
    cases hr : right (rest.take m) with
    | true =>
      rw [hr] at HP HG
      simp only [if_true] at HP
      clear hr
      go_enter Tryz.func165, Tryz.ntmps165
      go_wp2_with (first
        | (go_at_call 134; refine he.mono ?_; rintro e w' ⟨rfl, rfl⟩)
        | (go_at_call 166; refine (HG.out _).mono ?_; rintro e w' ⟨rfl, rfl⟩))
      go_ret
      refine ⟨by rw [HP.out, ← HST.out]; rfl, ?_, (Moves.refl (fun k => k = R) _).setCell (p := ⟨R, 0, none⟩) (.inl rfl) _⟩
      rw [HP.out]
      exact HR.out _ _ _ HSD.out (Holds.set (HS.out ▸ H0.out : Holds _ R 195 #[.string S, .int .i64 0]) 0 _)
    | false =>
      rw [hr] at HP HG
      simp only [Bool.false_eq_true, if_false] at HP
      clear hr
      go_enter Tryz.func165, Tryz.ntmps165
      go_wp2_with (first
        | (go_at_call 134; refine he.mono ?_; rintro e w' ⟨rfl, rfl⟩)
        | (go_at_call 166; refine (HG.out _).mono ?_; rintro e w' ⟨rfl, rfl⟩))
      go_ret
      refine ⟨by rw [HP.out, HE.out]; rfl, ?_, (Moves.refl (fun k => k = R) _).setCell (p := ⟨R, 1, none⟩) (.inl rfl) _⟩
      rw [HP.out]
      exact Holds.set H0.out 1 _

def anyR : List UInt8 → Bool := fun _ => true
theorem wAny_any (s : ByteArray) (w : World) : Calls Tryz.prog 166 #[.string s] w fun e w' => e = .returned (.bool true) ∧ w' = w := by
  go_enter Tryz.func166, Tryz.ntmps166
  go_wp2
  go_ret
  exact ⟨rfl, rfl⟩
def numL (l : List UInt8) : Nat := l.foldl (fun n b => n * 256 + b.toNat) 0
def u32Q (rest : List UInt8) (err : Int) : Nat × List UInt8 × Int := let p := fixedP anyR 4 rest err; (numL p.1, p.2)

theorem fixedP_len (right : List UInt8 → Bool) (n : Nat) (rest : List UInt8) (err : Int) : (fixedP right n rest err).1.length ≤ n := by
  unfold fixedP
  split
  · simp
  · split
    · simp
    · split
      · simp; omega
      · simp

theorem numL_snoc (l : List UInt8) (b : UInt8) : numL (l ++ [b]) = numL l * 256 + b.toNat := by simp [numL]
theorem numL_take (l : List UInt8) {k : Nat} (hk : k < l.length) : numL (l.take (k + 1)) = numL (l.take k) * 256 + l[k].toNat := by
  rw [List.take_succ_eq_append_getElem hk, numL_snoc]
theorem numL_lt (l : List UInt8) : ∀ k, k ≤ l.length → numL (l.take k) < 256 ^ k
  | 0, _ => by simp [numL]
  | k + 1, h => by
    have := numL_lt l k (by omega)
    have := UInt8.toNat_lt (l[k]'(by omega))
    rw [numL_take l (by omega), Nat.pow_succ]
    omega
theorem join8_u32 (n b : Nat) (hn : n < 16777216) (hb : b < 256) : bits .or .u32 ((n : Int) * 256) (b : Int) = ((n * 256 + b : Nat) : Int) := by
  have e1 : (n : Int) * 256 = ((n * 256 : Nat) : Int) := by omega
  rw [e1, or_u32 _ _ (by omega) (by omega), nat_join8 (n * 256) b (by omega) hb]

set_option maxRecDepth 100000 in
theorem rU32_any {w : World} {R : Nat} {rest : List UInt8} {err : Int} (h : WAt w R rest err) (hr : rest.length ≤ 1000000) :
    Calls Tryz.prog 133 #[.pointer (some ⟨R, 0, none⟩)] w fun e w' => e = .returned (.int .u32 ((u32Q rest err).1 : Int)) ∧ WAt w' R (u32Q rest err).2.1 (u32Q rest err).2.2 ∧ Moves (fun k => k = R) w w' := by
  have hf := fixed_any h hr 4 anyR (fun _ _ W => wAny_any _ W)
  have hl : (fixedP anyR 4 rest err).1.length ≤ 4 := fixedP_len anyR 4 rest err
  unfold u32Q
  generalize fixedP anyR 4 rest err = p at *
  obtain ⟨l, r, e0⟩ := p
  simp only at hf hl ⊢
  have HF := Lib.hid hf
  have hRlt : R < w.heap.size := Holds.lt h
  clear hf h hr
  go_enter Tryz.func133, Tryz.ntmps133
  go_wp2_with (
    go_at_call 165; refine HF.out.mono ?_; rintro e w1 ⟨rfl, h1, h2⟩
    obtain ⟨c, w2, hcv, hcell, hbel, hsz⟩ := conv_bytes w1 l)
  have hs1 := h2.size
  have H3 : WAt w2 R r e0 := Holds.moves h1 (Moves.ofBelow (S := nobody) hbel) fun h => h
  have H4 : Moves (fun k => k = R) w w2 := h2.trans (Moves.ofBelow (S := nobody) hbel) fun _ h => h.elim
  clear hcv HF h1 h2
  have HC := Lib.hid hcell
  clear hcell
  go_loopw [3, 10] (fun n i wr => ∃ k : Nat, k ≤ l.length ∧ n = .int .u32 (numL (l.take k) : Int) ∧ i = .int .i64 k ∧ wr = w2) (fun _ i _ => l.length - (intOf i).toNat)
  case atStart => exact ⟨0, Nat.zero_le _, rfl, rfl, rfl⟩
  case round =>
    obtain ⟨k, hk, rfl, rfl, rfl⟩ := hrel
    by_cases hlt : k < l.length
    · have c1 := HC.out k hlt
      have hb := UInt8.toNat_lt l[k]
      have hn : numL (l.take k) < 16777216 := by
        have := numL_lt l k hk
        have : 256 ^ k ≤ 256 ^ 3 := Nat.pow_le_pow_right (by omega) (by omega)
        omega
      have hj := join8_u32 _ _ hn hb
      have HT := Lib.hid (numL_take l hlt)
      generalize numL (l.take k) = n at *
      generalize (l[k]'hlt).toNat = b at *
      go_wp2_with fail
      go_roundw
      case rel =>
        refine ⟨k + 1, by omega, ?_, by go_num, trivial⟩
        rw [HT.out]
        simp
      case measure => simp [intOf]; omega
    · have hkl : k = l.length := by omega
      subst hkl
      rw [List.take_length]
      clear hlt HC
      go_wp2_with fail
      go_ret
      exact ⟨rfl, H3, H4⟩
theorem wNew_any (l : List UInt8) (w : World) : Calls Tryz.prog 126 #[.string (bs l)] w fun e w' => e = .returned (.pointer (some ⟨w.heap.size, 0, none⟩)) ∧ WAt w' w.heap.size l 0 ∧ Below w.heap.size w w' := by
  have HE : Hid (∀ W : World, Holds (W.alloc (.cells #[.string (bs l), .int .i64 0] 195)) W.heap.size 195 #[.string (bs l), .int .i64 0]) := fun W => Holds.new W _ _
  go_enter Tryz.func126, Tryz.ntmps126
  go_wp2
  go_ret
  exact ⟨rfl, HE.out w, (Below.refl _ _).alloc (Nat.le_refl _) _⟩
end Go.Proofs.YtlalkpgipenkaaaGreatDoor

namespace Go.Proofs.YtlalkpgipenkaaaGreatDoor
open Go.RowKit

set_option maxRecDepth 100000 in
theorem refU32_any (n : Nat) (hn : n < 4294967296) (w : World) : Calls Tryz.prog 110 #[.int .i64 n] w fun e w' => e = .returned (.string (bs (pack4 n))) ∧ Below w.heap.size w w' := by
  have hc := pack4_cells n hn
  have h0 : (n : Int) / 16777216 % 256 = (n : Int) / 16777216 := by omega
  have hcv := run_string_new w (pack4 n) (by simp [pack4]) #[.int .u8 ((n : Int) / 16777216 % 256), .int .u8 ((n : Int) / 65536 % 256), .int .u8 ((n : Int) / 256 % 256), .int .u8 ((n : Int) % 256)] (by rw [← hc, h0])
  have hl4 : (pack4 n).length = 4 := rfl
  rw [hl4] at hcv
  clear hc hl4 h0
  go_enter Tryz.func110, Tryz.ntmps110
  go_wp2
  go_ret
  exact ⟨rfl, (Below.refl _ _).alloc (Nat.le_refl _) _⟩
end Go.Proofs.YtlalkpgipenkaaaGreatDoor

namespace Go.Proofs.YtlalkpgipenkaaaGreatDoor
open Go.RowKit

set_option maxRecDepth 100000 in
theorem U32_any (n : Nat) (hn : n < 4294967296) (w : World) : Calls Tryz.prog 16 #[.int .u32 n] w fun e w' => e = .returned (.string (bs (pack4 n))) ∧ Below w.heap.size w w' := by
  have hc := pack4_cells n hn
  have hcv := run_string_new w (pack4 n) (by simp [pack4]) #[.int .u8 ((n : Int) / 16777216), .int .u8 ((n : Int) / 65536 % 256), .int .u8 ((n : Int) / 256 % 256), .int .u8 ((n : Int) % 256)] (by rw [← hc])
  have hl4 : (pack4 n).length = 4 := rfl
  rw [hl4] at hcv
  clear hc hl4
  go_enter Tryz.func16, Tryz.ntmps16
  go_wp2
  go_ret
  exact ⟨rfl, (Below.refl _ _).alloc (Nat.le_refl _) _⟩
end Go.Proofs.YtlalkpgipenkaaaGreatDoor

namespace Go.Proofs.YtlalkpgipenkaaaGreatDoor
open Go.RowKit

theorem wText_any (l : List UInt8) (hl : l.length ≤ 1000000) (w : World) : Calls Tryz.prog 142 #[.string (bs l)] w fun e w' => e = .returned (.string (bs (cnt l))) ∧ Below w.heap.size w w' := by
  have hsz := bs_size l
  have HE : Hid (bs (pack4 l.length) ++ bs l = bs (cnt l)) := bs_append _ _
  have hp : (bs (pack4 l.length)).size ≤ 4 := by rw [bs_size]; simp [pack4]
  have HU := Lib.hid (fun W => U32_any l.length (by omega) W)
  rw [← hsz] at HU hp HE
  have hl2 : (bs l).size ≤ 1000000 := by omega
  clear hsz hl
  generalize bs l = B at *
  generalize hS : bs (pack4 B.size) = P at *
  have HS := Lib.hid hS
  clear hS
  go_enter Tryz.func142, Tryz.ntmps142
  go_wp2_with (go_at_call 16; refine (HU.out _).mono ?_; rintro e w' ⟨rfl, hb⟩)
  go_ret
  exact ⟨by rw [← HE.out]; rfl, hb⟩

end Go.Proofs.YtlalkpgipenkaaaGreatDoor

namespace Go.Proofs.YtlalkpgipenkaaaGreatDoor
open Go.RowKit

def frHd (s : List UInt8) : Nat := (s.headD 0).toNat
def frUnitP (b : List UInt8) : List UInt8 × Nat := if b = [] then ([], 4) else if 262144 < b.length then ([], 2) else (cnt b, 0)
def frNeedP (s : List UInt8) : Nat × Nat :=
  if 0 < frHd s then (0, 2) else if s.length < 4 then (0, 4) else if num4 (s.take 4) = 0 then (0, 3) else if 262144 < num4 (s.take 4) then (0, 2) else (4 + num4 (s.take 4), 0)
def frBodyP (s : List UInt8) : List UInt8 × Nat :=
  if (frNeedP s).2 ≠ 0 then ([], (frNeedP s).2) else if s.length < (frNeedP s).1 then ([], 4) else if (frNeedP s).1 < s.length then ([], 3) else (s.drop 4, 0)
theorem frnumL_four {l : List UInt8} (h : l.length = 4) : numL l = num4 l := by
  match l, h with
  | [a, b, c, d], _ => simp only [numL, num4, List.foldl]; omega
theorem u32Q_short {s : List UInt8} (h : s.length < 4) : u32Q s 0 = (0, s, 4) := by
  unfold u32Q fixedP
  rw [if_neg (by simp), if_pos (by omega)]
  rfl
theorem u32Q_full {s : List UInt8} (h : 4 ≤ s.length) : u32Q s 0 = (num4 (s.take 4), s.drop 4, 0) := by
  unfold u32Q fixedP
  rw [if_neg (by simp), if_neg (by omega)]
  simp only [anyR, if_true]
  rw [show (4 : Int).toNat = 4 from rfl, frnumL_four (by rw [List.length_take]; omega)]
theorem frEmpty_yes {s : List UInt8} (h : s.length = 0) : (bs s).toList.isEmpty = true := by
  obtain rfl := List.length_eq_zero_iff.1 h
  rw [ByteArray.toList_eq]; rfl
theorem frEmpty_no {s : List UInt8} (h : ¬ s.length = 0) : (bs s).toList.isEmpty = false := by
  rw [ByteArray.toList_eq]
  cases s with
  | nil => exact absurd rfl h
  | cons b r => rfl

set_option maxRecDepth 100000 in
theorem frNeed_any (s : List UInt8) (hs : s.length ≤ 1000000) (w : World) : Calls Tryz.prog 100 #[.string (bs s)] w fun e w' => e = .returned (.tuple #[.int .i64 ((frNeedP s).1 : Int), .int .i64 ((frNeedP s).2 : Int)]) ∧ Below w.heap.size w w' := by
  have hsz := bs_size s
  have HX := Lib.hid (fun (h : 0 < s.length) W => index_bs s 0 h W)
  by_cases hh : 0 < frHd s
  · have hl : 0 < s.length := by
      cases s with
      | nil => exact absurd hh (by decide)
      | cons b r => simp
    have hi0 : ∀ W : World, (Instr.index 9 (.string (bs s)) (.int .i64 0)).run Tryz.prog W = .ok (.int .u8 (frHd s : Int)) W := fun W => by
      have := HX.out hl W
      rw [show ((0 : Nat) : Int) = 0 from rfl] at this
      rw [this]
      cases s with
      | nil => exact absurd hl (by decide)
      | cons b r => rfl
    have HN : Hid (frNeedP s = (0, 2)) := if_pos hh
    have q0 := frEmpty_no (s := s) (by omega)
    have q1 : ((frHd s : Int) != 0) = true := by simp; omega
    clear HX
    generalize frHd s = n at *
    generalize bs s = S at *
    go_enter Tryz.func100, Tryz.ntmps100
    go_wp2_with fail
    go_ret2
    exact ⟨by rw [HN.out]; rfl, Below.refl _ _⟩
  · have hway : ((bs s).toList.isEmpty = true ∧ s.length = 0) ∨ ((bs s).toList.isEmpty = false ∧ ∀ W : World, (Instr.index 9 (.string (bs s)) (.int .i64 0)).run Tryz.prog W = .ok (.int .u8 0) W) := by
      by_cases hl : 0 < s.length
      · refine .inr ⟨frEmpty_no (by omega), fun W => ?_⟩
        have := HX.out hl W
        rw [show ((0 : Nat) : Int) = 0 from rfl] at this
        rw [this]
        cases s with
        | nil => exact absurd hl (by decide)
        | cons b r =>
          have : b.toNat = 0 := by simpa [frHd] using hh
          simp [this]
      · exact .inl ⟨frEmpty_yes (by omega), by omega⟩
    have hN : frNeedP s = if s.length < 4 then (0, 4) else if num4 (s.take 4) = 0 then (0, 3) else if 262144 < num4 (s.take 4) then (0, 2) else (4 + num4 (s.take 4), 0) := if_neg hh
    have HW := Lib.hid (fun W => wNew_any s W)
    have hU : ∀ (W : World) (R : Nat), WAt W R s 0 → Calls Tryz.prog 133 #[.pointer (some ⟨R, 0, none⟩)] W fun e w' => e = .returned (.int .u32 ((u32Q s 0).1 : Int)) ∧ WAt w' R (u32Q s 0).2.1 (u32Q s 0).2.2 ∧ Moves (fun k => k = R) W w' := fun W R h => rU32_any h hs
    have HE : Hid (∀ (W : World) (R : Nat) (r : List UInt8) (e0 : Int), WAt W R r e0 → Calls Tryz.prog 134 #[.pointer (some ⟨R, 0, none⟩)] W fun e w' => e = .returned (.int .i64 e0) ∧ w' = W) := fun W R r e0 h => err_any h
    have HR := Lib.hid hway
    clear HX hway hh
    have hle : (bs s).size ≤ 1000000 := by omega
    by_cases h4 : s.length < 4
    · rw [u32Q_short h4] at hU
      rw [if_pos h4] at hN
      have HU := Lib.hid hU
      have HN := Lib.hid hN
      clear hU hN
      generalize bs s = S at *
      rcases HR.out with ⟨q0, _⟩ | ⟨q0, hi0⟩
      all_goals
        clear HR
        go_enter Tryz.func100, Tryz.ntmps100
        go_wp2_with (first
          | (go_at_call 126; refine (HW.out _).mono ?_; rintro e w1 ⟨rfl, h1, b1⟩)
          | (go_at_call 133; refine (HU.out _ _ h1).mono ?_; rintro e w2 ⟨rfl, h2, m2⟩)
          | (go_at_call 134; refine (HE.out _ _ _ _ h2).mono ?_; rintro e w3 ⟨rfl, rfl⟩))
        go_ret2
        exact ⟨by rw [HN.out]; rfl, b1.trans (m2.below b1.size (fun i hi => by omega))⟩
    · rw [u32Q_full (by omega)] at hU
      rw [if_neg h4] at hN
      have HU := Lib.hid hU
      clear hU
      have hn : num4 (s.take 4) < 4294967296 := num4_lt _
      generalize num4 (s.take 4) = n at *
      obtain ⟨q0, hi0⟩ := HR.out.resolve_left (fun h => absurd h.2 (by omega))
      clear HR
      generalize bs s = S at *
      by_cases h0 : n = 0
      · rw [if_pos h0] at hN
        have HN := Lib.hid hN
        clear hN
        subst h0
        go_enter Tryz.func100, Tryz.ntmps100
        go_wp2_with (first
          | (go_at_call 126; refine (HW.out _).mono ?_; rintro e w1 ⟨rfl, h1, b1⟩)
          | (go_at_call 133; refine (HU.out _ _ h1).mono ?_; rintro e w2 ⟨rfl, h2, m2⟩)
          | (go_at_call 134; refine (HE.out _ _ _ _ h2).mono ?_; rintro e w3 ⟨rfl, rfl⟩))
        go_ret2
        exact ⟨by rw [HN.out]; rfl, b1.trans (m2.below b1.size (fun i hi => by omega))⟩
      · rw [if_neg h0] at hN
        have q1 : ((n : Int) == 0) = false := by rw [beq_eq_false_iff_ne]; omega
        by_cases h2 : 262144 < n
        · rw [if_pos h2] at hN
          have HN := Lib.hid hN
          have q2 : decide ((n : Int) > 262144) = true := decide_eq_true (by omega)
          clear hN h0
          go_enter Tryz.func100, Tryz.ntmps100
          go_wp2_with (first
            | (go_at_call 126; refine (HW.out _).mono ?_; rintro e w1 ⟨rfl, h1, b1⟩)
            | (go_at_call 133; refine (HU.out _ _ h1).mono ?_; rintro e w2 ⟨rfl, h2, m2⟩)
            | (go_at_call 134; refine (HE.out _ _ _ _ h2).mono ?_; rintro e w3 ⟨rfl, rfl⟩))
          go_ret2
          exact ⟨by rw [HN.out]; rfl, b1.trans (m2.below b1.size (fun i hi => by omega))⟩
        · rw [if_neg h2] at hN
          have HN := Lib.hid hN
          have q2 : decide ((n : Int) > 262144) = false := decide_eq_false (by omega)
          clear hN h0
          go_enter Tryz.func100, Tryz.ntmps100
          go_wp2_with (first
            | (go_at_call 126; refine (HW.out _).mono ?_; rintro e w1 ⟨rfl, h1, b1⟩)
            | (go_at_call 133; refine (HU.out _ _ h1).mono ?_; rintro e w2 ⟨rfl, h2, m2⟩)
            | (go_at_call 134; refine (HE.out _ _ _ _ h2).mono ?_; rintro e w3 ⟨rfl, rfl⟩))
          go_ret2
          exact ⟨by rw [HN.out]; simp, b1.trans (m2.below b1.size (fun i hi => by omega))⟩

end Go.Proofs.YtlalkpgipenkaaaGreatDoor

namespace Go.Proofs.YtlalkpgipenkaaaGreatDoor
open Go.RowKit

set_option maxRecDepth 100000 in
theorem frUnit_any (b : List UInt8) (hb : b.length ≤ 1000000) (w : World) : Calls Tryz.prog 132 #[.string (bs b)] w fun e w' => e = .returned (.tuple #[.string (bs (frUnitP b).1), .int .i64 ((frUnitP b).2 : Int)]) ∧ Below w.heap.size w w' := by
  have hsz := bs_size b
  have HT := Lib.hid (fun W => wText_any b hb W)
  have HZ : Hid (bs ([] : List UInt8) = ⟨#[]⟩) := rfl
  by_cases h0 : b = []
  · have HU : Hid (frUnitP b = ([], 4)) := if_pos h0
    have q0 := frEmpty_yes (s := b) (by rw [h0]; rfl)
    clear h0
    generalize bs b = S at *
    go_enter Tryz.func132, Tryz.ntmps132
    go_wp2_with fail
    go_ret2
    exact ⟨by rw [HU.out, HZ.out]; rfl, Below.refl _ _⟩
  · have q0 := frEmpty_no (s := b) (by simpa using h0)
    by_cases h1 : 262144 < b.length
    · have HU : Hid (frUnitP b = ([], 2)) := by show frUnitP b = _; unfold frUnitP; rw [if_neg h0, if_pos h1]
      clear h0
      generalize bs b = S at *
      go_enter Tryz.func132, Tryz.ntmps132
      go_wp2_with fail
      go_ret2
      exact ⟨by rw [HU.out, HZ.out]; rfl, Below.refl _ _⟩
    · have HU : Hid (frUnitP b = (cnt b, 0)) := by show frUnitP b = _; unfold frUnitP; rw [if_neg h0, if_neg h1]
      clear h0
      obtain ⟨C, hC⟩ : ∃ C, C = bs (cnt b) := ⟨_, rfl⟩
      rw [← hC] at HT
      have HC := Lib.hid hC
      clear hC
      generalize bs b = S at *
      go_enter Tryz.func132, Tryz.ntmps132
      go_wp2_with (go_at_call 142; refine (HT.out _).mono ?_; rintro e w1 ⟨rfl, b1⟩)
      go_ret2
      exact ⟨by rw [HU.out, HC.out]; rfl, b1⟩

set_option maxRecDepth 100000 in
theorem frBody_any (s : List UInt8) (hs : s.length ≤ 1000000) (w : World) : Calls Tryz.prog 40 #[.string (bs s)] w fun e w' => e = .returned (.tuple #[.string (bs (frBodyP s).1), .int .i64 ((frBodyP s).2 : Int)]) ∧ Below w.heap.size w w' := by
  have hsz := bs_size s
  have HN := Lib.hid (fun W => frNeed_any s hs W)
  have HZ : Hid (bs ([] : List UInt8) = ⟨#[]⟩) := rfl
  have hB : frBodyP s = if (frNeedP s).2 ≠ 0 then ([], (frNeedP s).2) else if s.length < (frNeedP s).1 then ([], 4) else if (frNeedP s).1 < s.length then ([], 3) else (s.drop 4, 0) := rfl
  have hd := bs_drop s 4
  have hle : (bs s).size ≤ 1000000 := by omega
  have hb : (frNeedP s).2 = 0 → 4 ≤ (frNeedP s).1 := by
    unfold frNeedP
    repeat' split
    all_goals simp
  generalize frNeedP s = p at *
  obtain ⟨n, e0⟩ := p
  simp only at HN hB hb
  by_cases h0 : e0 = 0
  · subst h0
    have hn4 := hb rfl
    simp only [ne_eq, not_true_eq_false, if_false] at hB
    clear hb
    by_cases h1 : s.length < n
    · rw [if_pos h1] at hB
      have HB := Lib.hid hB
      have q1 : decide ((s.length : Int) < (n : Int)) = true := decide_eq_true (by omega)
      clear hB hd
      generalize bs s = S at *
      go_enter Tryz.func40, Tryz.ntmps40
      go_wp2_with (go_at_call 100; refine (HN.out _).mono ?_; rintro e w1 ⟨rfl, b1⟩)
      go_ret2
      exact ⟨by rw [HB.out, HZ.out]; rfl, b1⟩
    · rw [if_neg h1] at hB
      have q1 : decide ((s.length : Int) < (n : Int)) = false := decide_eq_false (by omega)
      by_cases h2 : n < s.length
      · rw [if_pos h2] at hB
        have HB := Lib.hid hB
        have q2 : decide ((s.length : Int) > (n : Int)) = true := decide_eq_true (by omega)
        clear hB hd
        generalize bs s = S at *
        go_enter Tryz.func40, Tryz.ntmps40
        go_wp2_with (go_at_call 100; refine (HN.out _).mono ?_; rintro e w1 ⟨rfl, b1⟩)
        go_ret2
        exact ⟨by rw [HB.out, HZ.out]; rfl, b1⟩
      · rw [if_neg h2] at hB
        have HB := Lib.hid hB
        have q2 : decide ((s.length : Int) > (n : Int)) = false := decide_eq_false (by omega)
        have q4 : 4 ≤ s.length := by omega
        obtain ⟨D, hD⟩ : ∃ D, D = bs (s.drop 4) := ⟨_, rfl⟩
        rw [← hD, hsz] at hd
        have HD := Lib.hid hD
        clear hB hD
        generalize bs s = S at *
        go_enter Tryz.func40, Tryz.ntmps40
        go_wp2_with (go_at_call 100; refine (HN.out _).mono ?_; rintro e w1 ⟨rfl, b1⟩)
        go_ret2
        exact ⟨by rw [HB.out, ← HD.out]; rfl, b1⟩
  · rw [if_pos h0] at hB
    have HB := Lib.hid hB
    have q0 : ((e0 : Int) != 0) = true := by simp; omega
    clear hB hb hd
    generalize bs s = S at *
    go_enter Tryz.func40, Tryz.ntmps40
    go_wp2_with (go_at_call 100; refine (HN.out _).mono ?_; rintro e w1 ⟨rfl, b1⟩)
    go_ret2
    exact ⟨by rw [HB.out, HZ.out]; rfl, b1⟩
end Go.Proofs.YtlalkpgipenkaaaGreatDoor

namespace Go.Proofs.YtlalkpgipenkaaaGreatDoor
open Go.RowKit

theorem frNeedP_two (s : List UInt8) : (frNeedP s).2 = 0 → 5 ≤ (frNeedP s).1 := by
  unfold frNeedP
  repeat' split
  all_goals (simp <;> try omega)
theorem frHd_index (b : List UInt8) (h : 0 < b.length) (W : World) : (Instr.index 9 (.string (bs b)) (.int .i64 0)).run Tryz.prog W = .ok (.int .u8 (frHd b : Int)) W := by
  have := index_bs b 0 h W
  rw [show ((0 : Nat) : Int) = 0 from rfl] at this
  rw [this]
  cases b with
  | nil => exact absurd h (by decide)
  | cons c r => rfl
theorem frBelN {B : Nat} {w w' : World} (h : Below B w w') (n : Nat) : Below B w (w'.drewN n) := ⟨h.os, h.tape, h.output, h.size, h.block⟩
theorem num4_three {s : List UInt8} (h : 4 ≤ s.length) (h0 : frHd s = 0) : num4 (s.take 4) = (s[1]'(by omega)).toNat * 65536 + (s[2]'(by omega)).toNat * 256 + (s[3]'(by omega)).toNat := by
  match s, h with
  | a :: b :: c :: d :: r, _ =>
    have : a.toNat = 0 := h0
    simp [num4, this]
set_option maxRecDepth 100000 in
theorem rfNeed_any (s : List UInt8) (hs : s.length ≤ 1000000) (w : World) : Calls Tryz.prog 103 #[.string (bs s)] w fun e w' => e = .returned (.tuple #[.int .i64 ((frNeedP s).1 : Int), .int .i64 ((frNeedP s).2 : Int)]) ∧ Below w.heap.size w w' := by
  have hsz := bs_size s
  by_cases hh : 0 < frHd s
  · have hl : 0 < s.length := by
      cases s with
      | nil => exact absurd hh (by decide)
      | cons b r => simp
    have hi0 := frHd_index s hl
    have HN : Hid (frNeedP s = (0, 2)) := if_pos hh
    have q0 : decide ((s.length : Int) > 0) = true := decide_eq_true (by omega)
    have q1 : decide ((frHd s : Int) > 0) = true := decide_eq_true (by omega)
    generalize frHd s = n at *
    generalize bs s = S at *
    go_enter Tryz.func103, Tryz.ntmps103
    go_wp2_with fail
    go_ret2
    exact ⟨by rw [HN.out]; rfl, Below.refl _ _⟩
  · have hN : frNeedP s = if s.length < 4 then (0, 4) else if num4 (s.take 4) = 0 then (0, 3) else if 262144 < num4 (s.take 4) then (0, 2) else (4 + num4 (s.take 4), 0) := if_neg hh
    have hz0 : frHd s = 0 := by omega
    by_cases hl : 0 < s.length
    · have hi0 := frHd_index s hl
      rw [hz0] at hi0
      have hi : ∀ W : World, (Instr.index 9 (.string (bs s)) (.int .i64 0)).run Tryz.prog W = .ok (.int .u8 0) W := hi0
      have q0 : decide ((s.length : Int) > 0) = true := decide_eq_true (by omega)
      clear hi0
      by_cases h4 : s.length < 4
      · have HN := Lib.hid (hN.trans (if_pos h4))
        have q4 : decide ((s.length : Int) < 4) = true := decide_eq_true (by omega)
        clear hN hh hz0
        generalize bs s = S at *
        go_enter Tryz.func103, Tryz.ntmps103
        go_wp2_with fail
        go_ret2
        exact ⟨by rw [HN.out]; rfl, Below.refl _ _⟩
      · have q4 : decide ((s.length : Int) < 4) = false := decide_eq_false (by omega)
        have hN := hN.trans (if_neg h4)
        have i1 : ∀ W : World, (Instr.index 9 (.string (bs s)) (.int .i64 1)).run Tryz.prog W = .ok (.int .u8 ((s[1]'(by omega)).toNat : Int)) W := fun W => index_bs s 1 (by omega) W
        have i2 : ∀ W : World, (Instr.index 9 (.string (bs s)) (.int .i64 2)).run Tryz.prog W = .ok (.int .u8 ((s[2]'(by omega)).toNat : Int)) W := fun W => index_bs s 2 (by omega) W
        have i3 : ∀ W : World, (Instr.index 9 (.string (bs s)) (.int .i64 3)).run Tryz.prog W = .ok (.int .u8 ((s[3]'(by omega)).toNat : Int)) W := fun W => index_bs s 3 (by omega) W
        rw [num4_three (by omega) hz0] at hN
        have l1 := UInt8.toNat_lt (s[1]'(by omega))
        have l2 := UInt8.toNat_lt (s[2]'(by omega))
        have l3 := UInt8.toNat_lt (s[3]'(by omega))
        have hpos : 4 ≤ (bs s).size := by omega
        clear hh hz0
        generalize (s[1]'(by omega)).toNat = a at *
        generalize (s[2]'(by omega)).toNat = b at *
        generalize (s[3]'(by omega)).toNat = c at *
        obtain ⟨n, hn⟩ : ∃ n, n = a * 65536 + b * 256 + c := ⟨_, rfl⟩
        rw [← hn] at hN
        have he : (a : Int) * 65536 + (b : Int) * 256 + (c : Int) = (n : Int) := by omega
        have hn0 : n ≤ 16777215 := by omega
        clear hn
        generalize bs s = S at *
        by_cases h2 : 262144 < n
        · have HN := Lib.hid (hN.trans ((if_neg (by omega)).trans (if_pos h2)))
          have q2 : decide ((n : Int) > 262144) = true := decide_eq_true (by omega)
          clear hN
          go_enter Tryz.func103, Tryz.ntmps103
          go_wp2_with fail
          go_quiet (fail)
          go_wp2_with fail
          go_ret2
          exact ⟨by rw [HN.out]; rfl, frBelN (Below.refl _ _) _⟩
        · have q2 : decide ((n : Int) > 262144) = false := decide_eq_false (by omega)
          by_cases h0 : n = 0
          · have HN := Lib.hid (hN.trans (if_pos h0))
            have q0 : ((n : Int) == 0) = true := by rw [beq_iff_eq]; omega
            clear hN
            go_enter Tryz.func103, Tryz.ntmps103
            go_wp2_with fail
            go_quiet (fail)
            go_wp2_with fail
            go_ret2
            exact ⟨by rw [HN.out]; rfl, frBelN (Below.refl _ _) _⟩
          · have HN := Lib.hid (hN.trans ((if_neg h0).trans (if_neg h2)))
            have q0 : ((n : Int) == 0) = false := by rw [beq_eq_false_iff_ne]; omega
            clear hN
            go_enter Tryz.func103, Tryz.ntmps103
            go_wp2_with fail
            go_quiet (fail)
            go_wp2_with fail
            go_ret2
            exact ⟨by rw [HN.out]; simp, frBelN (Below.refl _ _) _⟩
    · have h4 : s.length < 4 := by omega
      have HN := Lib.hid (hN.trans (if_pos h4))
      have q0 : decide ((s.length : Int) > 0) = false := decide_eq_false (by omega)
      have q4 : decide ((s.length : Int) < 4) = true := decide_eq_true (by omega)
      clear hN hh hz0
      generalize bs s = S at *
      go_enter Tryz.func103, Tryz.ntmps103
      go_wp2_with fail
      go_ret2
      exact ⟨by rw [HN.out]; rfl, Below.refl _ _⟩

end Go.Proofs.YtlalkpgipenkaaaGreatDoor
