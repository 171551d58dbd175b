/- The reader of wire values: its cells, Err, its fixed read, U32, a new reader. -/
import Derived.Test.YtlalkpgipenkaaaConvB
import Derived.Laws.Slices
import Derived.Laws.EntriesVeiled
import Derived.LoopTactic
namespace Go.Proofs.Ytlalkpgipenkaaa
open Go.RowKit

/-- Block R is a reader with these bytes left and this first error. -/
def WAt (w : World) (R : Nat) (rest : List UInt8) (err : Int) : Prop := Holds w R 135 #[.string (bs rest), .int .i64 err]
def ptr (R : Nat) : Value := .pointer (some ⟨R, 0, none⟩)

theorem err_any {w : World} {R : Nat} {rest : List UInt8} {err : Int} (h : WAt w R rest err) : Calls Try.prog 82 #[.pointer (some ⟨R, 0, none⟩)] w fun e w' => e = .returned (.int .i64 err) ∧ w' = w := by
  have c1 := Holds.cell h 1
  go_enter Try.func82, Try.ntmps82
  go_wp2
  go_ret
  exact ⟨rfl, rfl⟩
def fixedP (right : List UInt8 → Bool) (n : Int) (rest : List UInt8) (err : Int) : List UInt8 × List UInt8 × Int :=
  if err ≠ 0 then ([], rest, err) else if n < 0 ∨ (rest.length : Int) < n then ([], rest, 4) else if right (rest.take n.toNat) then (rest.take n.toNat, rest.drop n.toNat, 0) else ([], rest, 3)

theorem fixed_bad (F : Value) {w : World} {R : Nat} {rest : List UInt8} {err : Int} (h : WAt w R rest err) (n : Int) (right : List UInt8 → Bool) (hbad : err ≠ 0 ∨ n < 0 ∨ (rest.length : Int) < n) :
    Calls Try.prog 97 #[.pointer (some ⟨R, 0, none⟩), .int .i64 n, F] w fun e w' => e = .returned (.string (bs (fixedP right n rest err).1)) ∧ WAt w' R (fixedP right n rest err).2.1 (fixedP right n rest err).2.2 ∧ Moves (fun k => k = R) w w' := by
  have he := err_any h
  have c0 := Holds.cell h 0
  have c1 := Holds.cell h 1
  have f1 := Holds.frozen h 1
  have hsz := bs_size rest
  have H0 := Lib.hid h
  have HE : Hid (bs ([] : List UInt8) = ⟨#[]⟩) := rfl
  clear h
  by_cases h0 : err = 0
  · subst h0
    have h1 : n < 0 ∨ (rest.length : Int) < n := hbad.resolve_left (by simp)
    have HP : Hid (fixedP right n rest 0 = ([], rest, 4)) := by
      show fixedP right n rest 0 = _
      unfold fixedP
      rw [if_neg (by simp), if_pos h1]
    clear hbad
    generalize bs rest = S at *
    by_cases h2 : n < 0
    · go_enter Try.func97, Try.ntmps97
      go_wp2_with (go_at_call 82; refine he.mono ?_; rintro e w' ⟨rfl, rfl⟩)
      go_ret
      exact ⟨by rw [HP.out, HE.out]; rfl, by rw [HP.out]; exact Holds.set H0.out 1 _, (Moves.refl (fun k => k = R) _).setCell (p := ⟨R, 1, none⟩) (.inl rfl) _⟩
    · have h3 : (rest.length : Int) < n := h1.resolve_left h2
      go_enter Try.func97, Try.ntmps97
      go_wp2_with (go_at_call 82; refine he.mono ?_; rintro e w' ⟨rfl, rfl⟩)
      go_ret
      exact ⟨by rw [HP.out, HE.out]; rfl, by rw [HP.out]; exact Holds.set H0.out 1 _, (Moves.refl (fun k => k = R) _).setCell (p := ⟨R, 1, none⟩) (.inl rfl) _⟩
  · have HP : Hid (fixedP right n rest err = ([], rest, err)) := if_pos h0
    have hq : (err != 0) = true := by simpa using h0
    go_enter Try.func97, Try.ntmps97
    go_wp2_with (go_at_call 82; refine he.mono ?_; rintro e w' ⟨rfl, rfl⟩)
    go_ret
    exact ⟨by rw [HP.out, HE.out]; rfl, by rw [HP.out]; exact H0.out, Moves.refl _ _⟩

theorem fixed_any {w : World} {R : Nat} {rest : List UInt8} {err : Int} (h : WAt w R rest err) (hr : rest.length ≤ 1000000) (n : Int) (right : List UInt8 → Bool)
    (hF : 0 ≤ n → n ≤ (rest.length : Int) → ∀ W : World, Calls Try.prog 98 #[.string (bs (rest.take n.toNat))] W fun e w' => e = .returned (.bool (right (rest.take n.toNat))) ∧ w' = W) :
    Calls Try.prog 97 #[.pointer (some ⟨R, 0, none⟩), .int .i64 n, .func (.func 98) #[] #[]] w fun e w' => e = .returned (.string (bs (fixedP right n rest err).1)) ∧ WAt w' R (fixedP right n rest err).2.1 (fixedP right n rest err).2.2 ∧ Moves (fun k => k = R) w w' := by
  by_cases hbad : err ≠ 0 ∨ n < 0 ∨ (rest.length : Int) < n
  · exact fixed_bad _ h n right hbad
  · have he := err_any h
    have c0 := Holds.cell h 0
    have c1 := Holds.cell h 1
    have f1 := Holds.frozen h 1
    have f0 := Holds.frozen h 0
    have hsz := bs_size rest
    have H0 := Lib.hid h
    clear h
    obtain ⟨m, rfl⟩ : ∃ m : Nat, n = m := ⟨n.toNat, by omega⟩
    obtain rfl : err = 0 := by omega
    have hml : m ≤ rest.length := by omega
    have t1 := bs_take rest m
    have t2 := bs_drop rest m
    have hg := hF (by omega) (by omega)
    rw [Int.toNat_natCast] at hg
    have HP : Hid (fixedP right m rest 0 = if right (rest.take m) then (rest.take m, rest.drop m, 0) else ([], rest, 3)) := by
      show fixedP right m rest 0 = _
      unfold fixedP
      rw [if_neg (by simp), if_neg (by omega), Int.toNat_natCast]
    have HE : Hid (bs ([] : List UInt8) = ⟨#[]⟩) := rfl
    have hb : m ≤ (bs rest).size := by omega
    have hb2 : (bs rest).size ≤ 1000000 := by omega
    obtain ⟨St, hst⟩ : ∃ St, St = bs (rest.take m) := ⟨_, rfl⟩
    obtain ⟨Sd, hsd⟩ : ∃ Sd, Sd = bs (rest.drop m) := ⟨_, rfl⟩
    rw [← hst] at t1 hg
    rw [← hsd] at t2
    have HG := Lib.hid hg
    have HST := Lib.hid hst
    have HSD := Lib.hid hsd
    have HR : Hid (∀ (W : World) (r' : List UInt8) (S' : ByteArray), S' = bs r' → Holds (W) R 135 #[.string S', .int .i64 0] → WAt W R r' 0) := fun W r' S' hS hh => by subst hS; exact hh
    clear hF hbad hg hml hsz hst hsd
    generalize hS : bs rest = S at *
    have HS := Lib.hid hS
    clear hS
    cases hr : right (rest.take m) with
    | true =>
      rw [hr] at HP HG
      simp only [if_true] at HP
      clear hr
      go_enter Try.func97, Try.ntmps97
      go_wp2_with (first
        | (go_at_call 82; refine he.mono ?_; rintro e w' ⟨rfl, rfl⟩)
        | (go_at_call 98; refine (HG.out _).mono ?_; rintro e w' ⟨rfl, rfl⟩))
      go_ret
      refine ⟨by rw [HP.out, ← HST.out]; rfl, ?_, (Moves.refl (fun k => k = R) _).setCell (p := ⟨R, 0, none⟩) (.inl rfl) _⟩
      rw [HP.out]
      exact HR.out _ _ _ HSD.out (Holds.set (HS.out ▸ H0.out : Holds _ R 135 #[.string S, .int .i64 0]) 0 _)
    | false =>
      rw [hr] at HP HG
      simp only [Bool.false_eq_true, if_false] at HP
      clear hr
      go_enter Try.func97, Try.ntmps97
      go_wp2_with (first
        | (go_at_call 82; refine he.mono ?_; rintro e w' ⟨rfl, rfl⟩)
        | (go_at_call 98; refine (HG.out _).mono ?_; rintro e w' ⟨rfl, rfl⟩))
      go_ret
      refine ⟨by rw [HP.out, HE.out]; rfl, ?_, (Moves.refl (fun k => k = R) _).setCell (p := ⟨R, 1, none⟩) (.inl rfl) _⟩
      rw [HP.out]
      exact Holds.set H0.out 1 _

def anyR : List UInt8 → Bool := fun _ => true
theorem wAny_any (s : ByteArray) (w : World) : Calls Try.prog 98 #[.string s] w fun e w' => e = .returned (.bool true) ∧ w' = w := by
  go_enter Try.func98, Try.ntmps98
  go_wp2
  go_ret
  exact ⟨rfl, rfl⟩
def numL (l : List UInt8) : Nat := l.foldl (fun n b => n * 256 + b.toNat) 0
def u32Q (rest : List UInt8) (err : Int) : Nat × List UInt8 × Int := let p := fixedP anyR 4 rest err; (numL p.1, p.2)

theorem fixedP_len (right : List UInt8 → Bool) (n : Nat) (rest : List UInt8) (err : Int) : (fixedP right n rest err).1.length ≤ n := by
  unfold fixedP
  split
  · simp
  · split
    · simp
    · split
      · simp; omega
      · simp

theorem numL_snoc (l : List UInt8) (b : UInt8) : numL (l ++ [b]) = numL l * 256 + b.toNat := by simp [numL]
theorem numL_take (l : List UInt8) {k : Nat} (hk : k < l.length) : numL (l.take (k + 1)) = numL (l.take k) * 256 + l[k].toNat := by
  rw [List.take_succ_eq_append_getElem hk, numL_snoc]
theorem numL_lt (l : List UInt8) : ∀ k, k ≤ l.length → numL (l.take k) < 256 ^ k
  | 0, _ => by simp [numL]
  | k + 1, h => by
    have := numL_lt l k (by omega)
    have := UInt8.toNat_lt (l[k]'(by omega))
    rw [numL_take l (by omega), Nat.pow_succ]
    omega
theorem join8_u32 (n b : Nat) (hn : n < 16777216) (hb : b < 256) : bits .or .u32 ((n : Int) * 256) (b : Int) = ((n * 256 + b : Nat) : Int) := by
  have e1 : (n : Int) * 256 = ((n * 256 : Nat) : Int) := by omega
  rw [e1, or_u32 _ _ (by omega) (by omega), nat_join8 (n * 256) b (by omega) hb]

set_option maxRecDepth 100000 in
theorem rU32_any {w : World} {R : Nat} {rest : List UInt8} {err : Int} (h : WAt w R rest err) (hr : rest.length ≤ 1000000) :
    Calls Try.prog 81 #[.pointer (some ⟨R, 0, none⟩)] w fun e w' => e = .returned (.int .u32 ((u32Q rest err).1 : Int)) ∧ WAt w' R (u32Q rest err).2.1 (u32Q rest err).2.2 ∧ Moves (fun k => k = R) w w' := by
  have hf := fixed_any h hr 4 anyR (fun _ _ W => wAny_any _ W)
  have hl : (fixedP anyR 4 rest err).1.length ≤ 4 := fixedP_len anyR 4 rest err
  unfold u32Q
  generalize fixedP anyR 4 rest err = p at *
  obtain ⟨l, r, e0⟩ := p
  simp only at hf hl ⊢
  have HF := Lib.hid hf
  have hRlt : R < w.heap.size := Holds.lt h
  clear hf h hr
  go_enter Try.func81, Try.ntmps81
  go_wp2_with (
    go_at_call 97; refine HF.out.mono ?_; rintro e w1 ⟨rfl, h1, h2⟩
    obtain ⟨c, w2, hcv, hcell, hbel, hsz⟩ := conv_bytes w1 l)
  have hs1 := h2.size
  have H3 : WAt w2 R r e0 := Holds.moves h1 (Moves.ofBelow (S := nobody) hbel) fun h => h
  have H4 : Moves (fun k => k = R) w w2 := h2.trans (Moves.ofBelow (S := nobody) hbel) fun _ h => h.elim
  clear hcv HF h1 h2
  have HC := Lib.hid hcell
  clear hcell
  go_loopw [3, 10] (fun n i wr => ∃ k : Nat, k ≤ l.length ∧ n = .int .u32 (numL (l.take k) : Int) ∧ i = .int .i64 k ∧ wr = w2) (fun _ i _ => l.length - (intOf i).toNat)
  case atStart => exact ⟨0, Nat.zero_le _, rfl, rfl, rfl⟩
  case round =>
    obtain ⟨k, hk, rfl, rfl, rfl⟩ := hrel
    by_cases hlt : k < l.length
    · have c1 := HC.out k hlt
      have hb := UInt8.toNat_lt l[k]
      have hn : numL (l.take k) < 16777216 := by
        have := numL_lt l k hk
        have : 256 ^ k ≤ 256 ^ 3 := Nat.pow_le_pow_right (by omega) (by omega)
        omega
      have hj := join8_u32 _ _ hn hb
      have HT := Lib.hid (numL_take l hlt)
      generalize numL (l.take k) = n at *
      generalize (l[k]'hlt).toNat = b at *
      go_wp2_with fail
      go_roundw
      case rel =>
        refine ⟨k + 1, by omega, ?_, by go_num, trivial⟩
        rw [HT.out]
        simp
      case measure => simp [intOf]; omega
    · have hkl : k = l.length := by omega
      subst hkl
      rw [List.take_length]
      clear hlt HC
      go_wp2_with fail
      go_ret
      exact ⟨rfl, H3, H4⟩
theorem wNew_any (l : List UInt8) (w : World) : Calls Try.prog 80 #[.string (bs l)] w fun e w' => e = .returned (.pointer (some ⟨w.heap.size, 0, none⟩)) ∧ WAt w' w.heap.size l 0 ∧ Below w.heap.size w w' := by
  have HE : Hid (∀ W : World, Holds (W.alloc (.cells #[.string (bs l), .int .i64 0] 135)) W.heap.size 135 #[.string (bs l), .int .i64 0]) := fun W => Holds.new W _ _
  go_enter Try.func80, Try.ntmps80
  go_wp2
  go_ret
  exact ⟨rfl, HE.out w, (Below.refl _ _).alloc (Nat.le_refl _) _⟩
end Go.Proofs.Ytlalkpgipenkaaa
