/- The contracts of the reader's counted, of term at data, and of Decode at data and at too many bytes. -/
import Derived.Test.YtamgbeinmfgglaaReader
import Derived.Test.YtamgbeinmfgglaaMake
namespace Go.Proofs.Ytamgbeinmfgglaa
open Go.RowKit

theorem takeP_le (n : Nat) (rest : List UInt8) (bad : Bool) : (takeP n rest bad).2.1.length ≤ rest.length := by
  unfold takeP
  split
  · simp
  · simp
theorem u32P_le (rest : List UInt8) (bad : Bool) : (u32P rest bad).2.1.length ≤ rest.length := takeP_le 4 rest bad
theorem u32P_lt (rest : List UInt8) (bad : Bool) : (u32P rest bad).1 ≤ 4294967295 := by
  have h : (u32P rest bad).1 = if (takeP 4 rest bad).2.2 then 0 else num4 (takeP 4 rest bad).1 := rfl
  rw [h]
  split
  · omega
  · have := num4_lt (takeP 4 rest bad).1; omega

def cntP (rest : List UInt8) (bad : Bool) : List UInt8 × List UInt8 × Bool := takeP (u32P rest bad).1 (u32P rest bad).2.1 (u32P rest bad).2.2
theorem rcounted_any {w : World} {R A : Nat} {rest : List UInt8} {bad : Bool} (h : RdAt w R A rest bad) (hr : rest.length ≤ 1000000) :
    Calls Try.prog 78 #[.pointer (some ⟨R, 0, none⟩)] w fun e w' => e = .returned (.string (bs (cntP rest bad).1)) ∧ RdAt w' R A (cntP rest bad).2.1 (cntP rest bad).2.2 ∧ Moves (fun k => k = R) w w' := by
  have hu := u32_any h hr
  have h1 := u32P_le rest bad
  have h2 := u32P_lt rest bad
  unfold cntP
  generalize u32P rest bad = p at *
  obtain ⟨n, r1, b1⟩ := p
  simp only at *
  have ht := Lib.hid fun (W : World) (hW : RdAt W R A r1 b1) => take_any hW (by omega) n h2
  clear h1 h2 h hr
  go_enter Try.func78, Try.ntmps78
  go_wp2_with (first
    | (go_at_call 79; refine hu.mono ?_; rintro e w1 ⟨rfl, h1, m1⟩)
    | (go_at_call 101; refine (ht.out _ h1).mono ?_; rintro e w2 ⟨rfl, h2, m2⟩))
  go_ret
  exact ⟨rfl, h2, m1.trans m2 fun _ h => .inl h⟩

theorem u32P_pack (n : Nat) (hn : n < 4294967296) (l : List UInt8) : u32P (pack4 n ++ l) false = (n, l, false) := by
  have h4 : (pack4 n).length = 4 := rfl
  have e : takeP 4 (pack4 n ++ l) false = (pack4 n, l, false) := by
    unfold takeP
    rw [if_pos (by simp [h4])]
    rw [List.take_append_of_le_length (by omega), List.drop_append_of_le_length (by omega)]
    rfl
  unfold u32P
  rw [e]
  simp [num4_pack n hn]
theorem takeP_all (l : List UInt8) (bad : Bool) : takeP l.length l bad = (l, [], bad) := by simp [takeP]
theorem cntP_cnt (l : List UInt8) (hl : l.length < 4294967296) : cntP (cnt l) false = (l, [], false) := by
  unfold cntP cnt
  rw [u32P_pack _ hl]
  exact takeP_all l false

theorem rterm_data {B A R : Nat} {L : List Ent} {F : Nat → Prop} {w : World} {l : List UInt8} (ha : ArenaAt B A L F w) (hR : RdAt w R A (241 :: cnt l) false) (hF : ¬ F R) (hlen : L.length < 1073741824) (hl : l.length ≤ 200000) :
    Calls Try.prog 48 #[.pointer (some ⟨R, 0, none⟩)] w fun e w' => e = .returned (.int .i64 (dataM L (bs l)).1) ∧ RdAt w' R A [] false ∧ ∃ F', ArenaAt B A (dataM L (bs l)).2 F' w' ∧ Moves (fun k => k = R ∨ F k) w w' ∧ ∀ k, F' k → F k ∨ w.heap.size ≤ k := by
  have hcl : (cnt l).length = 4 + l.length := by simp [cnt, pack4]; omega
  have ho : Calls Try.prog 77 #[.pointer (some ⟨R, 0, none⟩)] w fun e w' => e = .returned (.int .u8 241) ∧ RdAt w' R A (cnt l) false ∧ Moves (fun k => k = R) w w' := octet_any hR (by simp [hcl]; omega)
  have hc : ∀ W, RdAt W R A (cnt l) false → Calls Try.prog 78 #[.pointer (some ⟨R, 0, none⟩)] W fun e w' => e = .returned (.string (bs l)) ∧ RdAt w' R A [] false ∧ Moves (fun k => k = R) W w' := fun W hW => by
    have h := rcounted_any hW (by omega)
    rw [cntP_cnt l (by omega)] at h
    exact h
  have hd : ∀ W, Moves (fun k => k = R) w W → Calls Try.prog 21 #[.pointer (some ⟨A, 0, none⟩), .string (bs l)] W (Makes B A F W (dataM L (bs l))) := fun W hW =>
    Data_any (ha.moves hW fun k hk e => hF (e ▸ hk)) hlen (bs l) (by rw [bs_size]; omega)
  have c0 := Holds.cell hR 0
  have HL := Lib.hid hR
  clear hR hcl hlen ha
  go_enter Try.func48, Try.ntmps48
  go_wp2_with (first
    | (go_at_call 77; refine ho.mono ?_; rintro e w1 ⟨rfl, h1, m1⟩)
    | (go_at_call 78; refine (hc _ h1).mono ?_; rintro e w2 ⟨rfl, h2, m2⟩; have m3 := m1.trans m2 fun _ h => .inl h)
    | (go_at_call 21; refine (hd _ m3).mono ?_; rintro e w3 ⟨rfl, F', h3, m4, hF'⟩))
  go_ret
  refine ⟨rfl, h2.moves m4 hF, F', h3, (m3.mono fun k h _ => .inl h).trans m4 fun k h => .inl (.inr h), fun k hk => (hF' k hk).imp_right fun h => Nat.le_trans m3.size h⟩
end Go.Proofs.Ytamgbeinmfgglaa
