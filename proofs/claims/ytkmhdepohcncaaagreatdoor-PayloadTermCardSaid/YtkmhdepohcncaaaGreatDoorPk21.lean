/- Part 21 of what the statement wants. -/
import Derived.Laws.Slices
import Derived.Laws.EntriesVeiled
import Derived.LoopTactic
import Derived.Test.YtkmhdepohcncaaaGreatDoorPk00
import Derived.Test.YtkmhdepohcncaaaGreatDoorPk08
namespace Go.Proofs.YtkmhdepohcncaaaGreatDoor
open Go.RowKit

/-- Block R is a reader with these bytes left and this first error. -/
def WAt (w : World) (R : Nat) (rest : List UInt8) (err : Int) : Prop := Holds w R 190 #[.string (bs rest), .int .i64 err]
def ptr (R : Nat) : Value := .pointer (some ⟨R, 0, none⟩)

theorem err_any {w : World} {R : Nat} {rest : List UInt8} {err : Int} (h : WAt w R rest err) : Calls Tryz.prog 140 #[.pointer (some ⟨R, 0, none⟩)] w fun e w' => e = .returned (.int .i64 err) ∧ w' = w := by
  have c1 := Holds.cell h 1
  go_enter Tryz.func140, Tryz.ntmps140
  go_wp2
  go_ret
  exact ⟨rfl, rfl⟩
def fixedP (right : List UInt8 → Bool) (n : Int) (rest : List UInt8) (err : Int) : List UInt8 × List UInt8 × Int :=
  if err ≠ 0 then ([], rest, err) else if n < 0 ∨ (rest.length : Int) < n then ([], rest, 4) else if right (rest.take n.toNat) then (rest.take n.toNat, rest.drop n.toNat, 0) else ([], rest, 3)

theorem fixed_bad (F : Value) {w : World} {R : Nat} {rest : List UInt8} {err : Int} (h : WAt w R rest err) (n : Int) (right : List UInt8 → Bool) (hbad : err ≠ 0 ∨ n < 0 ∨ (rest.length : Int) < n) :
    Calls Tryz.prog 179 #[.pointer (some ⟨R, 0, none⟩), .int .i64 n, F] w fun e w' => e = .returned (.string (bs (fixedP right n rest err).1)) ∧ WAt w' R (fixedP right n rest err).2.1 (fixedP right n rest err).2.2 ∧ Moves (fun k => k = R) w w' := by
  have he := err_any h
  have c0 := Holds.cell h 0
  have c1 := Holds.cell h 1
  have f1 := Holds.frozen h 1
  have hsz := bs_size rest
  have H0 := Lib.hid h
  have HE : Hid (bs ([] : List UInt8) = ⟨#[]⟩) := rfl
  clear h
  by_cases h0 : err = 0
  · subst h0
    have h1 : n < 0 ∨ (rest.length : Int) < n := hbad.resolve_left (by simp)
    have HP : Hid (fixedP right n rest 0 = ([], rest, 4)) := by
      show fixedP right n rest 0 = _
      unfold fixedP
      rw [if_neg (by simp), if_pos h1]
    clear hbad
    generalize bs rest = S at *
    by_cases h2 : n < 0
    · go_enter Tryz.func179, Tryz.ntmps179
      go_wp2_with (go_at_call 140; refine he.mono ?_; rintro e w' ⟨rfl, rfl⟩)
      go_ret
      exact ⟨by rw [HP.out, HE.out]; rfl, by rw [HP.out]; exact Holds.set H0.out 1 _, (Moves.refl (fun k => k = R) _).setCell (p := ⟨R, 1, none⟩) (.inl rfl) _⟩
    · have h3 : (rest.length : Int) < n := h1.resolve_left h2
      go_enter Tryz.func179, Tryz.ntmps179
      go_wp2_with (go_at_call 140; refine he.mono ?_; rintro e w' ⟨rfl, rfl⟩)
      go_ret
      exact ⟨by rw [HP.out, HE.out]; rfl, by rw [HP.out]; exact Holds.set H0.out 1 _, (Moves.refl (fun k => k = R) _).setCell (p := ⟨R, 1, none⟩) (.inl rfl) _⟩
  · have HP : Hid (fixedP right n rest err = ([], rest, err)) := if_pos h0
    have hq : (err != 0) = true := by simpa using h0
    go_enter Tryz.func179, Tryz.ntmps179
    go_wp2_with (go_at_call 140; refine he.mono ?_; rintro e w' ⟨rfl, rfl⟩)
    go_ret
    exact ⟨by rw [HP.out, HE.out]; rfl, by rw [HP.out]; exact H0.out, Moves.refl _ _⟩

theorem fixed_any {w : World} {R : Nat} {rest : List UInt8} {err : Int} (h : WAt w R rest err) (hr : rest.length ≤ 1000000) (n : Int) (right : List UInt8 → Bool)
    (hF : 0 ≤ n → n ≤ (rest.length : Int) → ∀ W : World, Calls Tryz.prog 180 #[.string (bs (rest.take n.toNat))] W fun e w' => e = .returned (.bool (right (rest.take n.toNat))) ∧ w' = W) :
    Calls Tryz.prog 179 #[.pointer (some ⟨R, 0, none⟩), .int .i64 n, .func (.func 180) #[] #[]] w fun e w' => e = .returned (.string (bs (fixedP right n rest err).1)) ∧ WAt w' R (fixedP right n rest err).2.1 (fixedP right n rest err).2.2 ∧ Moves (fun k => k = R) w w' := by
  by_cases hbad : err ≠ 0 ∨ n < 0 ∨ (rest.length : Int) < n
  · exact fixed_bad _ h n right hbad
  · have he := err_any h
    have c0 := Holds.cell h 0
    have c1 := Holds.cell h 1
    have f1 := Holds.frozen h 1
    have f0 := Holds.frozen h 0
    have hsz := bs_size rest
    have H0 := Lib.hid h
    clear h
    obtain ⟨m, rfl⟩ : ∃ m : Nat, n = m := ⟨n.toNat, by omega⟩
    obtain rfl : err = 0 := by omega
    have hml : m ≤ rest.length := by omega
    have t1 := bs_take rest m
    have t2 := bs_drop rest m
    have hg := hF (by omega) (by omega)
    rw [Int.toNat_natCast] at hg
    have HP : Hid (fixedP right m rest 0 = if right (rest.take m) then (rest.take m, rest.drop m, 0) else ([], rest, 3)) := by
      show fixedP right m rest 0 = _
      unfold fixedP
      rw [if_neg (by simp), if_neg (by omega), Int.toNat_natCast]
    have HE : Hid (bs ([] : List UInt8) = ⟨#[]⟩) := rfl
    have hb : m ≤ (bs rest).size := by omega
    have hb2 : (bs rest).size ≤ 1000000 := by omega
    obtain ⟨St, hst⟩ : ∃ St, St = bs (rest.take m) := ⟨_, rfl⟩
    obtain ⟨Sd, hsd⟩ : ∃ Sd, Sd = bs (rest.drop m) := ⟨_, rfl⟩
    rw [← hst] at t1 hg
    rw [← hsd] at t2
    have HG := Lib.hid hg
    have HST := Lib.hid hst
    have HSD := Lib.hid hsd
    have HR : Hid (∀ (W : World) (r' : List UInt8) (S' : ByteArray), S' = bs r' → Holds (W) R 190 #[.string S', .int .i64 0] → WAt W R r' 0) := fun W r' S' hS hh => by subst hS; exact hh
    clear hF hbad hg hml hsz hst hsd
    generalize hS : bs rest = S at *
    have HS := Lib.hid hS
    clear hS
    cases hr : right (rest.take m) with
    | true =>
      rw [hr] at HP HG
      simp only [if_true] at HP
      clear hr
      go_enter Tryz.func179, Tryz.ntmps179
      go_wp2_with (first
        | (go_at_call 140; refine he.mono ?_; rintro e w' ⟨rfl, rfl⟩)
        | (go_at_call 180; refine (HG.out _).mono ?_; rintro e w' ⟨rfl, rfl⟩))
      go_ret
      refine ⟨by rw [HP.out, ← HST.out]; rfl, ?_, (Moves.refl (fun k => k = R) _).setCell (p := ⟨R, 0, none⟩) (.inl rfl) _⟩
      rw [HP.out]
      exact HR.out _ _ _ HSD.out (Holds.set (HS.out ▸ H0.out : Holds _ R 190 #[.string S, .int .i64 0]) 0 _)
    | false =>
      rw [hr] at HP HG
      simp only [Bool.false_eq_true, if_false] at HP
      clear hr
      go_enter Tryz.func179, Tryz.ntmps179
      go_wp2_with (first
        | (go_at_call 140; refine he.mono ?_; rintro e w' ⟨rfl, rfl⟩)
        | (go_at_call 180; refine (HG.out _).mono ?_; rintro e w' ⟨rfl, rfl⟩))
      go_ret
      refine ⟨by rw [HP.out, HE.out]; rfl, ?_, (Moves.refl (fun k => k = R) _).setCell (p := ⟨R, 1, none⟩) (.inl rfl) _⟩
      rw [HP.out]
      exact Holds.set H0.out 1 _

def anyR : List UInt8 → Bool := fun _ => true
theorem wAny_any (s : ByteArray) (w : World) : Calls Tryz.prog 180 #[.string s] w fun e w' => e = .returned (.bool true) ∧ w' = w := by
  go_enter Tryz.func180, Tryz.ntmps180
  go_wp2
  go_ret
  exact ⟨rfl, rfl⟩
def numL (l : List UInt8) : Nat := l.foldl (fun n b => n * 256 + b.toNat) 0
def u32Q (rest : List UInt8) (err : Int) : Nat × List UInt8 × Int := let p := fixedP anyR 4 rest err; (numL p.1, p.2)

theorem fixedP_len (right : List UInt8 → Bool) (n : Nat) (rest : List UInt8) (err : Int) : (fixedP right n rest err).1.length ≤ n := by
  unfold fixedP
  split
  · simp
  · split
    · simp
    · split
      · simp; omega
      · simp

theorem numL_snoc (l : List UInt8) (b : UInt8) : numL (l ++ [b]) = numL l * 256 + b.toNat := by simp [numL]
theorem numL_take (l : List UInt8) {k : Nat} (hk : k < l.length) : numL (l.take (k + 1)) = numL (l.take k) * 256 + l[k].toNat := by
  rw [List.take_succ_eq_append_getElem hk, numL_snoc]
theorem numL_lt (l : List UInt8) : ∀ k, k ≤ l.length → numL (l.take k) < 256 ^ k
  | 0, _ => by simp [numL]
  | k + 1, h => by
    have := numL_lt l k (by omega)
    have := UInt8.toNat_lt (l[k]'(by omega))
    rw [numL_take l (by omega), Nat.pow_succ]
    omega
theorem join8_u32 (n b : Nat) (hn : n < 16777216) (hb : b < 256) : bits .or .u32 ((n : Int) * 256) (b : Int) = ((n * 256 + b : Nat) : Int) := by
  have e1 : (n : Int) * 256 = ((n * 256 : Nat) : Int) := by omega
  rw [e1, or_u32 _ _ (by omega) (by omega), nat_join8 (n * 256) b (by omega) hb]

set_option maxRecDepth 100000 in
theorem rU32_any {w : World} {R : Nat} {rest : List UInt8} {err : Int} (h : WAt w R rest err) (hr : rest.length ≤ 1000000) :
    Calls Tryz.prog 139 #[.pointer (some ⟨R, 0, none⟩)] w fun e w' => e = .returned (.int .u32 ((u32Q rest err).1 : Int)) ∧ WAt w' R (u32Q rest err).2.1 (u32Q rest err).2.2 ∧ Moves (fun k => k = R) w w' := by
  have hf := fixed_any h hr 4 anyR (fun _ _ W => wAny_any _ W)
  have hl : (fixedP anyR 4 rest err).1.length ≤ 4 := fixedP_len anyR 4 rest err
  unfold u32Q
  generalize fixedP anyR 4 rest err = p at *
  obtain ⟨l, r, e0⟩ := p
  simp only at hf hl ⊢
  have HF := Lib.hid hf
  have hRlt : R < w.heap.size := Holds.lt h
  clear hf h hr
  go_enter Tryz.func139, Tryz.ntmps139
  go_wp2_with (
    go_at_call 179; refine HF.out.mono ?_; rintro e w1 ⟨rfl, h1, h2⟩
    obtain ⟨c, w2, hcv, hcell, hbel, hsz⟩ := conv_bytes w1 l)
  have hs1 := h2.size
  have H3 : WAt w2 R r e0 := Holds.moves h1 (Moves.ofBelow (S := nobody) hbel) fun h => h
  have H4 : Moves (fun k => k = R) w w2 := h2.trans (Moves.ofBelow (S := nobody) hbel) fun _ h => h.elim
  clear hcv HF h1 h2
  have HC := Lib.hid hcell
  clear hcell
  go_loopw [3, 10] (fun n i wr => ∃ k : Nat, k ≤ l.length ∧ n = .int .u32 (numL (l.take k) : Int) ∧ i = .int .i64 k ∧ wr = w2) (fun _ i _ => l.length - (intOf i).toNat)
  case atStart => exact ⟨0, Nat.zero_le _, rfl, rfl, rfl⟩
  case round =>
    obtain ⟨k, hk, rfl, rfl, rfl⟩ := hrel
    by_cases hlt : k < l.length
    · have c1 := HC.out k hlt
      have hb := UInt8.toNat_lt l[k]
      have hn : numL (l.take k) < 16777216 := by
        have := numL_lt l k hk
        have : 256 ^ k ≤ 256 ^ 3 := Nat.pow_le_pow_right (by omega) (by omega)
        omega
      have hj := join8_u32 _ _ hn hb
      have HT := Lib.hid (numL_take l hlt)
      generalize numL (l.take k) = n at *
      generalize (l[k]'hlt).toNat = b at *
      go_wp2_with fail
      go_roundw
      case rel =>
        refine ⟨k + 1, by omega, ?_, by go_num, trivial⟩
        rw [HT.out]
        simp
      case measure => simp [intOf]; omega
    · have hkl : k = l.length := by omega
      subst hkl
      rw [List.take_length]
      clear hlt HC
      go_wp2_with fail
      go_ret
      exact ⟨rfl, H3, H4⟩
theorem wText_any (l : List UInt8) (hl : l.length ≤ 1000000) (w : World) : Calls Tryz.prog 158 #[.string (bs l)] w fun e w' => e = .returned (.string (bs (cnt l))) ∧ Below w.heap.size w w' := by
  have hsz := bs_size l
  have HE : Hid (bs (pack4 l.length) ++ bs l = bs (cnt l)) := bs_append _ _
  have hp : (bs (pack4 l.length)).size ≤ 4 := by rw [bs_size]; simp [pack4]
  have HU := Lib.hid (fun W => U32_any l.length (by omega) W)
  rw [← hsz] at HU hp HE
  have hl2 : (bs l).size ≤ 1000000 := by omega
  clear hsz hl
  generalize bs l = B at *
  generalize hS : bs (pack4 B.size) = P at *
  have HS := Lib.hid hS
  clear hS
  go_enter Tryz.func158, Tryz.ntmps158
  go_wp2_with (go_at_call 19; refine (HU.out _).mono ?_; rintro e w' ⟨rfl, hb⟩)
  go_ret
  exact ⟨by rw [← HE.out]; rfl, hb⟩

theorem wNew_any (l : List UInt8) (w : World) : Calls Tryz.prog 114 #[.string (bs l)] w fun e w' => e = .returned (.pointer (some ⟨w.heap.size, 0, none⟩)) ∧ WAt w' w.heap.size l 0 ∧ Below w.heap.size w w' := by
  have HE : Hid (∀ W : World, Holds (W.alloc (.cells #[.string (bs l), .int .i64 0] 190)) W.heap.size 190 #[.string (bs l), .int .i64 0]) := fun W => Holds.new W _ _
  go_enter Tryz.func114, Tryz.ntmps114
  go_wp2
  go_ret
  exact ⟨rfl, HE.out w, (Below.refl _ _).alloc (Nat.le_refl _) _⟩
end Go.Proofs.YtkmhdepohcncaaaGreatDoor

namespace Go.Proofs.YtkmhdepohcncaaaGreatDoor
open Go.RowKit

def hd0 : List UInt8 → UInt8
  | [] => 0
  | b :: _ => b
def plainL : List UInt8 → List UInt8
  | [] => []
  | b :: l => if b = 0 then plainL l else b :: l
def strLen : Value → Nat
  | .string s => s.size
  | _ => 0

theorem drop_one (b : UInt8) (l : List UInt8) : (bs (b :: l)).extract 1 (bs (b :: l)).size = bs l := by
  have := bs_drop (b :: l) 1
  simpa using this

set_option maxRecDepth 100000 in
theorem trimByte_any (l : List UInt8) (hl : l.length ≤ 1000000) (w : World) : Calls Tryz.prog 235 #[.string (bs l), .int .u8 0] w fun e w' => e = .returned (.string (bs (plainL l))) ∧ w' = w := by
  go_enter Tryz.func235, Tryz.ntmps235
  go_wp2_with fail
  go_loopw [0] (fun v wr => ∃ m : List UInt8, m.length ≤ 1000000 ∧ v = .string (bs m) ∧ plainL m = plainL l ∧ wr = w) (fun v _ => strLen v)
  case atStart => exact ⟨l, hl, rfl, rfl, rfl⟩
  case round =>
    obtain ⟨m, hm, rfl, hp, rfl⟩ := hrel
    cases m with
    | nil =>
      have HP : Hid (plainL l = []) := hp.symm
      have HE : Hid (bs ([] : List UInt8) = ⟨#[]⟩) := rfl
      rw [show bs ([] : List UInt8) = ⟨#[]⟩ from rfl]
      clear hp
      go_wp2_with fail
      go_ret
      exact ⟨by rw [HP.out, HE.out]; rfl, rfl⟩
    | cons b r =>
      have hi := fun W => index_bs (b :: r) 0 (by simp) W
      simp only [List.getElem_cons_zero] at hi
      have hi0 : ∀ W : World, (Instr.index 9 (.string (bs (b :: r))) (.int .i64 0)).run Tryz.prog W = .ok (.int .u8 (b.toNat : Int)) W := hi
      have hd := drop_one b r
      have hsz := bs_size (b :: r)
      simp only [List.length_cons] at hm hsz
      have hrs := bs_size r
      by_cases hb : b = 0
      · have HP : Hid (plainL r = plainL l) := by
          show plainL r = _
          rw [← hp, plainL, if_pos hb]
        have hbn : b.toNat = 0 := by rw [hb]; rfl
        rw [hbn] at hi0
        have hi1 : ∀ W : World, (Instr.index 9 (.string (bs (b :: r))) (.int .i64 0)).run Tryz.prog W = .ok (.int .u8 0) W := hi0
        clear hi hi0 hp hbn hb
        have hpos : 0 < (bs (b :: r)).size := by omega
        have hle : (bs (b :: r)).size ≤ 1000000 := by omega
        have HR : Hid (∃ T, T = bs r) := ⟨_, rfl⟩
        obtain ⟨T, hT⟩ := HR.out
        rw [← hT] at hd hrs
        rw [hsz] at hd
        have HT := Lib.hid hT
        have HD := Lib.hid hd
        clear hT
        generalize bs (b :: r) = B at *
        go_wp2_with fail
        go_roundw
        case rel => exact ⟨r, by omega, by rw [HT.out], HP.out, trivial⟩
        case measure => simp only [strLen]; omega
      · have HP : Hid (plainL l = b :: r) := by
          show plainL l = _
          rw [← hp, plainL, if_neg hb]
        have hbn : b.toNat ≠ 0 := fun e => hb (UInt8.toNat_inj.1 e)
        have hq : ((b.toNat : Int) == 0) = false := by
          rw [beq_eq_false_iff_ne]
          omega
        have HB : Hid (bs (b :: r) = bs (b :: r)) := rfl
        have hpos : 0 < (bs (b :: r)).size := by omega
        have hle : (bs (b :: r)).size ≤ 1000000 := by omega
        clear hi hp hb hbn hd
        obtain ⟨B, hB⟩ : ∃ B, B = bs (b :: r) := ⟨_, rfl⟩
        rw [← hB] at hi0 hsz hpos hle ⊢
        have HBB := Lib.hid hB
        clear hB
        generalize b.toNat = n at *
        go_wp2_with fail
        go_ret
        exact ⟨by rw [HP.out, ← HBB.out]; rfl, rfl⟩

set_option maxRecDepth 100000 in
theorem TrimLeft_any (l : List UInt8) (hl : l.length ≤ 1000000) (w : World) : Calls Tryz.prog 222 #[.string (bs l), .string ⟨#[0]⟩] w fun e w' => e = .returned (.string (bs (plainL l))) ∧ w' = w := by
  cases l with
  | nil =>
    rw [show bs ([] : List UInt8) = ⟨#[]⟩ from rfl]
    have HP : Hid (bs (plainL []) = ⟨#[]⟩) := rfl
    go_enter Tryz.func222, Tryz.ntmps222
    go_wp2
    go_ret
    exact ⟨by rw [HP.out]; rfl, rfl⟩
  | cons b r =>
    have hne : (bs (b :: r)).toList.isEmpty = false := by
      rw [ByteArray.toList_eq]
      simp [bs]
    have hc := Lib.hid (trimByte_any (b :: r) hl)
    have hi0 : ∀ W : World, (Instr.index 9 (.string ⟨#[0]⟩) (.int .i64 0)).run Tryz.prog W = .ok (.int .u8 0) W := fun W => index_bs [0] 0 (by simp) W
    have hz : (⟨#[0]⟩ : ByteArray).toList.isEmpty = false := by rw [ByteArray.toList_eq]; rfl
    have hz1 : (⟨#[0]⟩ : ByteArray).size = 1 := rfl
    generalize (⟨#[0]⟩ : ByteArray) = Z at *
    generalize bs (b :: r) = B at *
    go_enter Tryz.func222, Tryz.ntmps222
    go_wp2_with (go_at_call 235; refine (hc.out _).mono ?_; rintro e w1 ⟨rfl, rfl⟩)
    go_ret
    exact ⟨rfl, rfl⟩

theorem unpadded_any (l : List UInt8) (hl : l.length ≤ 1000000) (w : World) : Calls Tryz.prog 191 #[.string (bs l)] w fun e w' => e = .returned (.string (bs (plainL l))) ∧ w' = w := by
  have hc := Lib.hid (TrimLeft_any l hl)
  generalize bs l = B at *
  go_enter Tryz.func191, Tryz.ntmps191
  go_wp2_with (go_at_call 222; refine (hc.out _).mono ?_; rintro e w1 ⟨rfl, rfl⟩)
  go_ret
  exact ⟨rfl, rfl⟩

theorem wByte_any (b : UInt8) (w : World) : Calls Tryz.prog 26 #[.int .u8 (b.toNat : Int)] w fun e w' => e = .returned (.string (bs [b])) ∧ Below w.heap.size w w' := by
  have hcv := run_string_new w [b] (by simp) #[.int .u8 (b.toNat : Int)] (by simp [byteCells])
  simp only [List.length_cons, List.length_nil] at hcv
  generalize b.toNat = n at *
  generalize bs [b] = B at *
  go_enter Tryz.func26, Tryz.ntmps26
  go_wp2
  go_ret
  exact ⟨rfl, (Below.refl _ _).alloc (Nat.le_refl _) _⟩
theorem wByte_zero (w : World) : Calls Tryz.prog 26 #[.int .u8 0] w fun e w' => e = .returned (.string (bs [0])) ∧ Below w.heap.size w w' := wByte_any 0 w
theorem wByte_one (w : World) : Calls Tryz.prog 26 #[.int .u8 1] w fun e w' => e = .returned (.string (bs [1])) ∧ Below w.heap.size w w' := wByte_any 1 w

def boolL (x : Bool) : List UInt8 := if x then [1] else [0]
theorem wBool_any (x : Bool) (w : World) : Calls Tryz.prog 196 #[.bool x] w fun e w' => e = .returned (.string (bs (boolL x))) ∧ Below w.heap.size w w' := by
  cases x with
  | true =>
    go_enter Tryz.func196, Tryz.ntmps196
    go_wp2_with (go_at_call 26; refine (wByte_one _).mono ?_; rintro e w1 ⟨rfl, hb⟩)
    go_ret
    exact ⟨rfl, hb⟩
  | false =>
    go_enter Tryz.func196, Tryz.ntmps196
    go_wp2_with (go_at_call 26; refine (wByte_zero _).mono ?_; rintro e w1 ⟨rfl, hb⟩)
    go_ret
    exact ⟨rfl, hb⟩

def wholeL (l : List UInt8) : List UInt8 := if 128 ≤ (hd0 (plainL l)).toNat then 0 :: plainL l else plainL l
theorem plainL_le : ∀ l : List UInt8, (plainL l).length ≤ l.length
  | [] => Nat.le_refl _
  | b :: l => by
    have := plainL_le l
    unfold plainL
    split
    · simp; omega
    · exact Nat.le_refl _
theorem wholeL_le (l : List UInt8) : (wholeL l).length ≤ l.length + 1 := by
  have := plainL_le l
  unfold wholeL
  split
  · simp; omega
  · omega

set_option maxRecDepth 100000 in
theorem wWhole_any (l : List UInt8) (hl : l.length ≤ 100000) (w : World) : Calls Tryz.prog 198 #[.string (bs l)] w fun e w' => e = .returned (.string (bs (cnt (wholeL l)))) ∧ Below w.heap.size w w' := by
  have HU := Lib.hid (fun W => unpadded_any l (by omega) W)
  have hw := plainL_le l
  have hwh := wholeL_le l
  have HT := Lib.hid (fun W => wText_any (wholeL l) (by omega) W)
  have HW : Hid (wholeL l = if 128 ≤ (hd0 (plainL l)).toNat then 0 :: plainL l else plainL l) := rfl
  generalize wholeL l = wl at *
  generalize plainL l = p at *
  obtain ⟨B, hB⟩ : ∃ B, B = bs l := ⟨_, rfl⟩
  rw [← hB] at HU ⊢
  clear hB
  cases p with
  | nil =>
    have HW2 : Hid (wl = []) := HW.out
    have hT : Hid (∀ W : World, Calls Tryz.prog 158 #[.string ⟨#[]⟩] W fun e w' => e = .returned (.string (bs (cnt wl))) ∧ Below W.heap.size W w') := by
      have := HT.out
      rw [HW2.out] at this ⊢
      exact this
    have HU2 : Hid (∀ W : World, Calls Tryz.prog 191 #[.string B] W fun e w' => e = .returned (.string ⟨#[]⟩) ∧ w' = W) := HU.out
    clear HU HT HW HW2 hw
    generalize cnt wl = cl at *
    go_enter Tryz.func198, Tryz.ntmps198
    go_wp2_with (first
      | (go_at_call 191; refine (HU2.out _).mono ?_; rintro e w' ⟨rfl, rfl⟩)
      | (go_at_call 158; refine (hT.out _).mono ?_; rintro e w' ⟨rfl, hb⟩))
    go_ret
    exact ⟨rfl, hb⟩
  | cons b r =>
    have hne : (bs (b :: r)).toList.isEmpty = false := by
      rw [ByteArray.toList_eq]
      simp [bs]
    have hi0 : ∀ W : World, (Instr.index 9 (.string (bs (b :: r))) (.int .i64 0)).run Tryz.prog W = .ok (.int .u8 (b.toNat : Int)) W := fun W => index_bs (b :: r) 0 (by simp) W
    have hsz := bs_size (b :: r)
    by_cases hb : 128 ≤ b.toNat
    · have HW2 : wl = 0 :: b :: r := by
        have := HW.out
        rwa [if_pos (by exact hb)] at this
      have hq : ((b.toNat : Int) ≥ 128) := by omega
      have HA : Hid (bs [0] ++ bs (b :: r) = bs (0 :: b :: r)) := bs_append _ _
      rw [HW2] at HT ⊢
      have h1 : (bs [0]).size ≤ 1 := by rw [bs_size]; simp
      have h2 : (bs (b :: r)).size ≤ 1000000 := by rw [bs_size]; omega
      rw [← HA.out] at HT
      generalize cnt (0 :: b :: r) = cl at *
      clear HW HW2 hsz hb HA
      generalize bs (b :: r) = C at *
      obtain ⟨Z, hZ⟩ : ∃ Z, Z = bs [0] := ⟨_, rfl⟩
      have hz := fun W => wByte_zero W
      rw [← hZ] at HT h1
      have HZ : Hid (∀ W : World, Calls Tryz.prog 26 #[.int .u8 0] W fun e w' => e = .returned (.string Z) ∧ Below W.heap.size W w') := by rw [hZ]; exact hz
      clear hZ hz
      generalize b.toNat = n at *
      go_enter Tryz.func198, Tryz.ntmps198
      go_wp2_with (first
        | (go_at_call 191; refine (HU.out _).mono ?_; rintro e w1 ⟨rfl, rfl⟩)
        | (go_at_call 26; refine (HZ.out _).mono ?_; rintro e w2 ⟨rfl, hb2⟩)
        | (go_at_call 158; refine (HT.out _).mono ?_; rintro e w3 ⟨rfl, hb3⟩))
      go_ret
      exact ⟨rfl, hb2.trans (hb3.mono hb2.size)⟩
    · have HW2 : wl = b :: r := by
        have := HW.out
        rwa [if_neg (by exact hb)] at this
      have hq : decide ((b.toNat : Int) ≥ 128) = false := decide_eq_false (by omega)
      rw [HW2] at HT ⊢
      generalize cnt (b :: r) = cl at *
      clear HW HW2 hsz hb
      generalize bs (b :: r) = C at *
      generalize b.toNat = n at *
      go_enter Tryz.func198, Tryz.ntmps198
      go_wp2_with (first
        | (go_at_call 191; refine (HU.out _).mono ?_; rintro e w1 ⟨rfl, rfl⟩)
        | (go_at_call 158; refine (HT.out _).mono ?_; rintro e w3 ⟨rfl, hb3⟩))
      go_ret
      exact ⟨rfl, hb3⟩

end Go.Proofs.YtkmhdepohcncaaaGreatDoor
