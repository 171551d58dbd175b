/- The reader's Byte, Bool, Bytes, U32. -/
import Derived.Test.YtfbegkmogdjaiaaDoorWire
import Derived.Test.YtfbegkmogdjaiaaDoorConv
namespace Go.Proofs.YtfbegkmogdjaiaaDoor
open Go.RowKit

def anyR : List UInt8 → Bool := fun _ => true
def hd0 : List UInt8 → UInt8
  | [] => 0
  | b :: _ => b
def boolR : List UInt8 → Bool := fun l => decide ((hd0 l).toNat ≤ 1)

theorem wAny_any (s : ByteArray) (w : World) : Calls Tryd.prog 43 #[.string s] w fun e w' => e = .returned (.bool true) ∧ w' = w := by
  go_enter Tryd.func43, Tryd.ntmps43
  go_wp2
  go_ret
  exact ⟨rfl, rfl⟩
theorem wBool1_any (b : UInt8) (l : List UInt8) (w : World) : Calls Tryd.prog 44 #[.string (bs (b :: l))] w fun e w' => e = .returned (.bool (decide (b.toNat ≤ 1))) ∧ w' = w := by
  have hi := fun W => index_bs (b :: l) 0 (by simp) W
  simp only [List.getElem_cons_zero] at hi
  have hi0 : ∀ W : World, (Instr.index 9 (.string (bs (b :: l))) (.int .i64 0)).run Tryd.prog W = .ok (.int .u8 (b.toNat : Int)) W := hi
  have HD : Hid (decide ((b.toNat : Int) ≤ 1) = decide (b.toNat ≤ 1)) := by
    show decide ((b.toNat : Int) ≤ 1) = decide (b.toNat ≤ 1)
    exact decide_eq_decide.2 (by omega)
  clear hi
  generalize bs (b :: l) = S at *
  generalize b.toNat = n at *
  go_enter Tryd.func44, Tryd.ntmps44
  go_wp2
  go_ret
  exact ⟨by rw [← HD.out]; rfl, rfl⟩

theorem wFirst_any (l : List UInt8) (w : World) : Calls Tryd.prog 41 #[.string (bs l)] w fun e w' => e = .returned (.int .u8 ((hd0 l).toNat : Int)) ∧ w' = w := by
  cases l with
  | nil =>
    rw [show bs ([] : List UInt8) = ⟨#[]⟩ from rfl]
    go_enter Tryd.func41, Tryd.ntmps41
    go_wp2
    go_ret
    exact ⟨rfl, rfl⟩
  | cons b l =>
    have hi := fun W => index_bs (b :: l) 0 (by simp) W
    simp only [List.getElem_cons_zero] at hi
    have hi0 : ∀ W : World, (Instr.index 9 (.string (bs (b :: l))) (.int .i64 0)).run Tryd.prog W = .ok (.int .u8 (b.toNat : Int)) W := hi
    have hne : (bs (b :: l)).toList.isEmpty = false := by
      rw [ByteArray.toList_eq]
      simp [bs]
    have HB : Hid ((hd0 (b :: l)).toNat = b.toNat) := rfl
    clear hi
    generalize bs (b :: l) = S at *
    generalize b.toNat = n at *
    go_enter Tryd.func41, Tryd.ntmps41
    go_wp2
    go_ret
    exact ⟨by rw [HB.out]; rfl, rfl⟩

def byteP (rest : List UInt8) (err : Int) : Nat × List UInt8 × Int := let p := fixedP anyR 1 rest err; ((hd0 p.1).toNat, p.2)
def boolP (rest : List UInt8) (err : Int) : Bool × List UInt8 × Int := let p := fixedP boolR 1 rest err; (decide ((hd0 p.1).toNat = 1), p.2)
def numL (l : List UInt8) : Nat := l.foldl (fun n b => n * 256 + b.toNat) 0
def u32Q (rest : List UInt8) (err : Int) : Nat × List UInt8 × Int := let p := fixedP anyR 4 rest err; (numL p.1, p.2)

theorem rByte_any {w : World} {R : Nat} {rest : List UInt8} {err : Int} (h : WAt w R rest err) (hr : rest.length ≤ 1000000) :
    Calls Tryd.prog 10 #[.pointer (some ⟨R, 0, none⟩)] w fun e w' => e = .returned (.int .u8 ((byteP rest err).1 : Int)) ∧ WAt w' R (byteP rest err).2.1 (byteP rest err).2.2 ∧ Moves (fun k => k = R) w w' := by
  have hf := fixed_any h hr 1 anyR (fun _ _ W => wAny_any _ W)
  unfold byteP
  generalize fixedP anyR 1 rest err = p at *
  have HF := Lib.hid hf
  clear hf h
  go_enter Tryd.func10, Tryd.ntmps10
  go_wp2_with (first
    | (go_at_call 42; refine HF.out.mono ?_; rintro e w1 ⟨rfl, h1, h2⟩)
    | (go_at_call 41; refine (wFirst_any _ _).mono ?_; rintro e w2 ⟨rfl, rfl⟩))
  go_ret
  exact ⟨rfl, h1, h2⟩

theorem rBool_any {w : World} {R : Nat} {rest : List UInt8} {err : Int} (h : WAt w R rest err) (hr : rest.length ≤ 1000000) :
    Calls Tryd.prog 12 #[.pointer (some ⟨R, 0, none⟩)] w fun e w' => e = .returned (.bool (boolP rest err).1) ∧ WAt w' R (boolP rest err).2.1 (boolP rest err).2.2 ∧ Moves (fun k => k = R) w w' := by
  have hf := fixed_bool h hr 1 boolR (fun _ h1 W => by
    cases rest with
    | nil => simp at h1
    | cons b l => exact wBool1_any b [] W)
  unfold boolP
  generalize fixedP boolR 1 rest err = p at *
  have HF := Lib.hid hf
  have HD : Hid (((((hd0 p.1).toNat : Int)) == 1) = decide ((hd0 p.1).toNat = 1)) := by
    show ((((hd0 p.1).toNat : Int)) == 1) = decide ((hd0 p.1).toNat = 1)
    by_cases hq : (hd0 p.1).toNat = 1
    · simp [hq]
    · rw [decide_eq_false hq, beq_eq_false_iff_ne]
      omega
  clear hf h
  go_enter Tryd.func12, Tryd.ntmps12
  go_wp2_with (first
    | (go_at_call 42; refine HF.out.mono ?_; rintro e w1 ⟨rfl, h1, h2⟩)
    | (go_at_call 41; refine (wFirst_any _ _).mono ?_; rintro e w2 ⟨rfl, rfl⟩))
  go_ret
  exact ⟨by rw [← HD.out]; rfl, h1, h2⟩

theorem rBytes_any {w : World} {R : Nat} {rest : List UInt8} {err : Int} (h : WAt w R rest err) (hr : rest.length ≤ 1000000) (n : Int) :
    Calls Tryd.prog 20 #[.pointer (some ⟨R, 0, none⟩), .int .i64 n] w fun e w' => e = .returned (.string (bs (fixedP anyR n rest err).1)) ∧ WAt w' R (fixedP anyR n rest err).2.1 (fixedP anyR n rest err).2.2 ∧ Moves (fun k => k = R) w w' := by
  have hf := fixed_any h hr n anyR (fun _ _ W => wAny_any _ W)
  generalize fixedP anyR n rest err = p at *
  have HF := Lib.hid hf
  clear hf h
  go_enter Tryd.func20, Tryd.ntmps20
  go_wp2_with (first
    | (go_at_call 42; refine HF.out.mono ?_; rintro e w1 ⟨rfl, h1, h2⟩))
  go_ret
  exact ⟨rfl, h1, h2⟩

theorem fixedP_len (right : List UInt8 → Bool) (n : Nat) (rest : List UInt8) (err : Int) : (fixedP right n rest err).1.length ≤ n := by
  unfold fixedP
  split
  · simp
  · split
    · simp
    · split
      · simp; omega
      · simp

theorem numL_snoc (l : List UInt8) (b : UInt8) : numL (l ++ [b]) = numL l * 256 + b.toNat := by simp [numL]
theorem numL_take (l : List UInt8) {k : Nat} (hk : k < l.length) : numL (l.take (k + 1)) = numL (l.take k) * 256 + l[k].toNat := by
  rw [List.take_succ_eq_append_getElem hk, numL_snoc]
theorem numL_lt (l : List UInt8) : ∀ k, k ≤ l.length → numL (l.take k) < 256 ^ k
  | 0, _ => by simp [numL]
  | k + 1, h => by
    have := numL_lt l k (by omega)
    have := UInt8.toNat_lt (l[k]'(by omega))
    rw [numL_take l (by omega), Nat.pow_succ]
    omega
theorem join8_u32 (n b : Nat) (hn : n < 16777216) (hb : b < 256) : bits .or .u32 ((n : Int) * 256) (b : Int) = ((n * 256 + b : Nat) : Int) := by
  have e1 : (n : Int) * 256 = ((n * 256 : Nat) : Int) := by omega
  rw [e1, or_u32 _ _ (by omega) (by omega), nat_join8 (n * 256) b (by omega) hb]

set_option maxRecDepth 100000 in
theorem rU32_any {w : World} {R : Nat} {rest : List UInt8} {err : Int} (h : WAt w R rest err) (hr : rest.length ≤ 1000000) :
    Calls Tryd.prog 14 #[.pointer (some ⟨R, 0, none⟩)] w fun e w' => e = .returned (.int .u32 ((u32Q rest err).1 : Int)) ∧ WAt w' R (u32Q rest err).2.1 (u32Q rest err).2.2 ∧ Moves (fun k => k = R) w w' := by
  have hf := fixed_any h hr 4 anyR (fun _ _ W => wAny_any _ W)
  have hl : (fixedP anyR 4 rest err).1.length ≤ 4 := fixedP_len anyR 4 rest err
  unfold u32Q
  generalize fixedP anyR 4 rest err = p at *
  obtain ⟨l, r, e0⟩ := p
  simp only at hf hl ⊢
  have HF := Lib.hid hf
  have hRlt : R < w.heap.size := Holds.lt h
  clear hf h hr
  go_enter Tryd.func14, Tryd.ntmps14
  go_wp2_with (
    go_at_call 42; refine HF.out.mono ?_; rintro e w1 ⟨rfl, h1, h2⟩
    obtain ⟨c, w2, hcv, hcell, hbel, hsz⟩ := conv_bytes w1 l)
  have hs1 := h2.size
  have H3 : WAt w2 R r e0 := Holds.moves h1 (Moves.ofBelow (S := nobody) hbel) fun h => h
  have H4 : Moves (fun k => k = R) w w2 := h2.trans (Moves.ofBelow (S := nobody) hbel) fun _ h => h.elim
  clear hcv HF h1 h2
  have HC := Lib.hid hcell
  clear hcell
  go_loopw [3, 10] (fun n i wr => ∃ k : Nat, k ≤ l.length ∧ n = .int .u32 (numL (l.take k) : Int) ∧ i = .int .i64 k ∧ wr = w2) (fun _ i _ => l.length - (intOf i).toNat)
  case atStart => exact ⟨0, Nat.zero_le _, rfl, rfl, rfl⟩
  case round =>
    obtain ⟨k, hk, rfl, rfl, rfl⟩ := hrel
    by_cases hlt : k < l.length
    · have c1 := HC.out k hlt
      have hb := UInt8.toNat_lt l[k]
      have hn : numL (l.take k) < 16777216 := by
        have := numL_lt l k hk
        have : 256 ^ k ≤ 256 ^ 3 := Nat.pow_le_pow_right (by omega) (by omega)
        omega
      have hj := join8_u32 _ _ hn hb
      have HT := Lib.hid (numL_take l hlt)
      generalize numL (l.take k) = n at *
      generalize (l[k]'hlt).toNat = b at *
      go_wp2_with fail
      go_roundw
      case rel =>
        refine ⟨k + 1, by omega, ?_, by go_num, trivial⟩
        rw [HT.out]
        simp
      case measure => simp [intOf]; omega
    · have hkl : k = l.length := by omega
      subst hkl
      rw [List.take_length]
      clear hlt HC
      go_wp2_with fail
      go_ret
      exact ⟨rfl, H3, H4⟩
end Go.Proofs.YtfbegkmogdjaiaaDoor
