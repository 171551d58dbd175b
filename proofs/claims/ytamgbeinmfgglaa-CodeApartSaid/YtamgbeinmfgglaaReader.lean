/- Four-byte numbers and counted strings: the contracts of U32 on both sides, and of counted.
The contracts of the reader's small steps: fail, take, octet, u32, counted. -/
import Derived.Test.YtamgbeinmfgglaaUnpack
import Derived.Test.YtamgbeinmfgglaaU32
import Derived.Test.YtamgbeinmfgglaaRefU32
import Derived.Laws.NewBlocks
import Derived.Laws.Slices
import Derived.BigRegion
namespace Go.Proofs.Ytamgbeinmfgglaa
open Go.RowKit

theorem counted_any (s : ByteArray) (hs : s.size ≤ 1000000) (w : World) : Calls Try.prog 76 #[.string s] w fun e w' => e = .returned (.string (bs (cnt s.data.toList))) ∧ Below w.heap.size w w' := by
  have hl : s.data.toList.length = s.size := by rw [Array.length_toList]; rfl
  have he : bs (pack4 s.size) ++ s = bs (cnt s.data.toList) := by
    conv => lhs; rhs; rw [← bs_list s]
    rw [bs_append, cnt, hl]
  have HE := Lib.hid he
  have hp : (bs (pack4 s.size)).size ≤ 4 := by rw [bs_size]; simp [pack4]
  clear he
  go_enter Try.func76, Try.ntmps76
  go_wp2_with (go_at_call 29; refine (U32_any s.size (by omega) _).mono ?_; rintro e w' ⟨rfl, hb⟩)
  go_ret
  exact ⟨by rw [← HE.out]; rfl, hb⟩
end Go.Proofs.Ytamgbeinmfgglaa

namespace Go.Proofs.Ytamgbeinmfgglaa
open Go.RowKit

/-- Block R is a reader over the arena at A with these bytes left. -/
def RdAt (w : World) (R A : Nat) (rest : List UInt8) (bad : Bool) : Prop := Holds w R 93 #[.pointer (some ⟨A, 0, none⟩), .string (bs rest), .bool bad]

theorem fail_any {w : World} {R A : Nat} {rest : List UInt8} {bad : Bool} (h : RdAt w R A rest bad) :
    Calls Try.prog 83 #[.pointer (some ⟨R, 0, none⟩)] w fun e w' => e = .returned (.tuple #[]) ∧ RdAt w' R A [] true ∧ Moves (fun k => k = R) w w' := by
  have c1 := Holds.cell h 1
  have c2 := Holds.cell h 2
  have f1 := Holds.frozen h 1
  have f2 := Holds.frozen h 2
  go_enter Try.func83, Try.ntmps83
  go_wp2
  go_end0
  exact ⟨rfl, Holds.set (Holds.set h 1 _) 2 _, ((Moves.refl (fun k => k = R) w).setCell (p := ⟨R, 1, none⟩) (.inl rfl) _).setCell (p := ⟨R, 2, none⟩) (.inl rfl) _⟩

def takeP (n : Nat) (rest : List UInt8) (bad : Bool) : List UInt8 × List UInt8 × Bool := if n ≤ rest.length then (rest.take n, rest.drop n, bad) else ([], [], true)

theorem take_any {w : World} {R A : Nat} {rest : List UInt8} {bad : Bool} (h : RdAt w R A rest bad) (hr : rest.length ≤ 1000000) (n : Nat) (hn : n ≤ 4294967295) :
    Calls Try.prog 101 #[.pointer (some ⟨R, 0, none⟩), .int .u32 n] w fun e w' => e = .returned (.string (bs (takeP n rest bad).1)) ∧ RdAt w' R A (takeP n rest bad).2.1 (takeP n rest bad).2.2 ∧ Moves (fun k => k = R) w w' := by
  have c1 := Holds.cell h 1
  have f1 := Holds.frozen h 1
  have hsz := bs_size rest
  by_cases hle : n ≤ rest.length
  · have ht : Hid (takeP n rest bad = (rest.take n, rest.drop n, bad)) := if_pos hle
    have h1 := bs_take rest n
    have h2 := bs_drop rest n
    have hb : n ≤ (bs rest).size := by omega
    have hb2 : (bs rest).size ≤ 1000000 := by omega
    have H1 := Lib.hid h1
    have H2 := Lib.hid h2
    have H0 := Lib.hid h
    clear h1 h2 hsz h hle
    generalize hS : bs rest = S at *
    have HS := Lib.hid hS
    clear hS
    go_enter Try.func101, Try.ntmps101
    go_wp2_with fail
    go_ret
    exact ⟨by rw [ht.out]; exact congrArg (fun s => Ending.returned (.string s)) H1.out, by rw [ht.out, H2.out]; exact Holds.set H0.out 1 _, (Moves.refl (fun k => k = R) w).setCell (p := ⟨R, 1, none⟩) (.inl rfl) _⟩
  · have ht : Hid (takeP n rest bad = ([], [], true)) := if_neg hle
    have hb : (bs rest).size < n := by omega
    have hf := fail_any h
    have HS := Lib.hid hsz
    clear hsz hle
    generalize bs rest = S at *
    go_enter Try.func101, Try.ntmps101
    go_wp2_with (go_at_call 83; refine hf.mono ?_; rintro e w' ⟨rfl, h3, h4⟩)
    go_ret
    exact ⟨by rw [ht.out]; rfl, by rw [ht.out]; exact h3, h4⟩

def octetP (rest : List UInt8) (bad : Bool) : Nat × List UInt8 × Bool := match rest with
  | b :: l => if bad then (0, l, true) else (b.toNat, l, false)
  | [] => (0, [], true)
theorem octet_any {w : World} {R A : Nat} {rest : List UInt8} {bad : Bool} (h : RdAt w R A rest bad) (hr : rest.length ≤ 1000000) :
    Calls Try.prog 77 #[.pointer (some ⟨R, 0, none⟩)] w fun e w' => e = .returned (.int .u8 (octetP rest bad).1) ∧ RdAt w' R A (octetP rest bad).2.1 (octetP rest bad).2.2 ∧ Moves (fun k => k = R) w w' := by
  have ht := take_any h hr 1 (by omega)
  rcases rest with _ | ⟨b, l⟩
  · have e : takeP 1 [] bad = ([], [], true) := rfl
    rw [e] at ht
    go_enter Try.func77, Try.ntmps77
    go_wp2_with (
      go_at_call 101
      refine ht.mono ?_
      rintro e w' ⟨rfl, h3, h4⟩
      have c2 := Holds.cell h3 2)
    go_ret
    exact ⟨rfl, h3, h4⟩
  · have e : takeP 1 (b :: l) bad = ([b], l, bad) := rfl
    rw [e] at ht
    have hix : ∀ W : World, (Instr.index 9 (.string (bs [b])) (.int .i64 0)).run Try.prog W = .ok (.int .u8 b.toNat) W := fun W => by
      rw [run_index_string (P := Try.prog) W 9 (bs [b]) .i64 0 Try.underlying9, dif_pos (by rw [bs_size]; simp)]
      simp [bs, ByteArray.getElem_eq_getElem_data]
    have HB : Hid (octetP (b :: l) bad = if bad then (0, l, true) else (b.toNat, l, false)) := rfl
    generalize bs [b] = S at *
    cases bad with
    | true =>
      go_enter Try.func77, Try.ntmps77
      go_wp2_with (
        go_at_call 101
        refine ht.mono ?_
        rintro e w' ⟨rfl, h3, h4⟩
        have c2 := Holds.cell h3 2)
      go_ret
      exact ⟨by rw [HB.out]; rfl, by rw [HB.out]; exact h3, h4⟩
    | false =>
      go_enter Try.func77, Try.ntmps77
      go_wp2_with (
        go_at_call 101
        refine ht.mono ?_
        rintro e w' ⟨rfl, h3, h4⟩
        have c2 := Holds.cell h3 2)
      go_ret
      exact ⟨by rw [HB.out]; rfl, by rw [HB.out]; exact h3, h4⟩

def u32P (rest : List UInt8) (bad : Bool) : Nat × List UInt8 × Bool := match takeP 4 rest bad with
  | (s, r, b) => (if b then 0 else num4 s, r, b)

set_option maxRecDepth 100000 in
theorem u32_any {w : World} {R A : Nat} {rest : List UInt8} {bad : Bool} (h : RdAt w R A rest bad) (hr : rest.length ≤ 1000000) :
    Calls Try.prog 79 #[.pointer (some ⟨R, 0, none⟩)] w fun e w' => e = .returned (.int .u32 (u32P rest bad).1) ∧ RdAt w' R A (u32P rest bad).2.1 (u32P rest bad).2.2 ∧ Moves (fun k => k = R) w w' := by
  have ht := take_any h hr 4 (by omega)
  have HU : Hid (u32P rest bad = (if (takeP 4 rest bad).2.2 then 0 else num4 (takeP 4 rest bad).1, (takeP 4 rest bad).2.1, (takeP 4 rest bad).2.2)) := rfl
  have hl4 : (takeP 4 rest bad).2.2 = true ∨ (takeP 4 rest bad).1.length = 4 := by
    unfold takeP
    split
    · right; simp; omega
    · left; rfl
  generalize takeP 4 rest bad = tp at *
  obtain ⟨s, r, b⟩ := tp
  simp only at *
  cases b with
  | true =>
    go_enter Try.func79, Try.ntmps79
    go_wp2_with (
      go_at_call 101
      refine ht.mono ?_
      rintro e w' ⟨rfl, h3, h4⟩
      have c2 := Holds.cell h3 2)
    go_ret
    exact ⟨by rw [HU.out]; rfl, by rw [HU.out]; exact h3, h4⟩
  | false =>
    have hsl : s.length = 4 := by simpa using hl4
    match s, hsl with
    | [a, b, c, d], _ =>
      have A1 := UInt8.toNat_lt a
      have A2 := UInt8.toNat_lt b
      have A3 := UInt8.toNat_lt c
      have A4 := UInt8.toNat_lt d
      have hj := join_u32 a.toNat b.toNat c.toNat d.toNat A1 A2 A3 A4
      have hix : ∀ (j : Nat) (hj : j < 4) (W : World), (Instr.index 9 (.string (bs [a, b, c, d])) (.int .i64 (j : Int))).run Try.prog W = .ok (.int .u8 ([a, b, c, d][j]'(by simpa using hj)).toNat) W := fun j hj W => by
        rw [run_index_string (P := Try.prog) W 9 (bs [a, b, c, d]) .i64 j Try.underlying9, dif_pos (by rw [bs_size]; simp; omega)]
        simp [bs, ByteArray.getElem_eq_getElem_data]
      obtain ⟨S, hS⟩ : ∃ S, S = bs [a, b, c, d] := ⟨_, rfl⟩
      rw [← hS] at hix ht
      have x0 : ∀ W : World, (Instr.index 9 (.string S) (.int .i64 0)).run Try.prog W = .ok (.int .u8 a.toNat) W := hix 0 (by omega)
      have x1 : ∀ W : World, (Instr.index 9 (.string S) (.int .i64 1)).run Try.prog W = .ok (.int .u8 b.toNat) W := hix 1 (by omega)
      have x2 : ∀ W : World, (Instr.index 9 (.string S) (.int .i64 2)).run Try.prog W = .ok (.int .u8 c.toNat) W := hix 2 (by omega)
      have x3 : ∀ W : World, (Instr.index 9 (.string S) (.int .i64 3)).run Try.prog W = .ok (.int .u8 d.toNat) W := hix 3 (by omega)
      have HJ := Lib.hid hj
      have hnum : Hid (num4 [a, b, c, d] = a.toNat * 16777216 + b.toNat * 65536 + c.toNat * 256 + d.toNat) := rfl
      clear hix hj hl4 hS
      generalize a.toNat = b0 at *
      generalize b.toNat = b1 at *
      generalize c.toNat = b2 at *
      generalize d.toNat = b3 at *
      go_enter Try.func79, Try.ntmps79
      go_wp2_with (
        go_at_call 101
        refine ht.mono ?_
        rintro e w' ⟨rfl, h3, h4⟩
        have c2 := Holds.cell h3 2)
      go_region
      go_wp2_with fail
      go_ret
      refine ⟨?_, ?_, ?_⟩
      · rw [HU.out]
        simp only [hnum.out]
        exact congrArg (fun z => Ending.returned (.int .u32 z)) HJ.out
      · rw [HU.out]
        exact Holds.moves h3 (S := nobody) (Moves.refl _ _).drew fun h => h
      · exact h4.drew
end Go.Proofs.Ytamgbeinmfgglaa
