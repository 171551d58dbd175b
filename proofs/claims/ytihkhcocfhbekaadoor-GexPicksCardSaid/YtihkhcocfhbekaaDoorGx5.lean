/- Layer 18: Bits; the question whether a group has so many bits; the first of four groups that has; four groups turned round. -/
import Derived.Test.YtihkhcocfhbekaaDoorGx1
import Derived.Test.YtihkhcocfhbekaaDoorGx4
import Derived.Laws.OwnMore
import Derived.LoopTactic
namespace Go.Proofs.YtihkhcocfhbekaaDoor
open Go.RowKit

set_option maxRecDepth 100000 in
theorem gxBits_any (p : List UInt8) (G : ByteArray) (hp : p.length ≤ 1000000) (w : World) : Calls Tryd.prog 32 #[.agg #[.string (bs p), .string G]] w fun e w' => e = .returned (.int .i64 (bitsL p : Int)) ∧ Below w.heap.size w w' := by
  have HB := Lib.hid (fun W => wBits_any p hp W)
  generalize bitsL p = n at *
  generalize bs p = P at *
  go_enter Tryd.func32, Tryd.ntmps32
  go_wp2_with (go_at_call 54; (with_reducible refine (HB.out _).mono ?_); rintro e w1 ⟨rfl, rfl⟩)
  go_ret
  exact ⟨rfl, (Below.refl _ _).alloc (Nat.le_refl _) _⟩

def inB (lo hi n : Nat) : Bool := decide (lo ≤ n) && decide (n ≤ hi)

set_option maxRecDepth 100000 in
theorem within1_any {w : World} {b1 b2 lo hi : Nat} (h1 : w.cell? ⟨b1, 0, none⟩ = some (.int .u32 (lo : Int))) (h2 : w.cell? ⟨b2, 0, none⟩ = some (.int .u32 (hi : Int))) (hlo : lo < 4294967296) (hhi : hi < 4294967296) (p : List UInt8) (G : ByteArray) (hp : p.length ≤ 1000000) :
    Calls Tryd.prog 67 #[.agg #[.string (bs p), .string G], .pointer (some ⟨b1, 0, none⟩), .pointer (some ⟨b2, 0, none⟩)] w fun e w' => e = .returned (.bool (inB lo hi (bitsL p))) ∧ Below w.heap.size w w' := by
  have HB := Lib.hid (fun W => gxBits_any p G hp W)
  have hle := bitsL_le p
  have HI : Hid (inB lo hi (bitsL p) = (decide (lo ≤ bitsL p) && decide (bitsL p ≤ hi))) := rfl
  have hb1 := World.block_lt_of_cell? w _ h1
  have hb2 := World.block_lt_of_cell? w _ h2
  have HCs : Hid (∀ W, Below w.heap.size w W → W.cell? ⟨b1, 0, none⟩ = some (.int .u32 (lo : Int)) ∧ W.cell? ⟨b2, 0, none⟩ = some (.int .u32 (hi : Int))) := fun W hb => ⟨(hb.cell (p := ⟨b1, 0, none⟩) hb1).trans h1, (hb.cell (p := ⟨b2, 0, none⟩) hb2).trans h2⟩
  have HB0 : Hid (Below w.heap.size w (w.alloc (.cells #[.string (bs p), .string G] 51))) := (Below.refl _ _).alloc (Nat.le_refl _) _
  clear h1 h2 hb1 hb2
  generalize inB lo hi (bitsL p) = r at *
  generalize bitsL p = n at *
  generalize bs p = P at *
  go_enter Tryd.func67, Tryd.ntmps67
  go_wp2_with (go_at_call 32; (with_reducible refine (HB.out _).mono ?_); rintro e w1 ⟨rfl, g1⟩; have B1 := Lib.hid (HB0.out.trans (g1.mono HB0.out.size)); obtain ⟨c1, c2⟩ := HCs.out _ B1.out; clear g1)
  all_goals
    go_ret
    exact ⟨by rw [HI.out]; simp; try omega, B1.out⟩

/-- Four groups in a row. -/
def grV (f : Nat → ByteArray) (G : ByteArray) : List Value := [.string (f 0), .string G, .string (f 1), .string G, .string (f 2), .string G, .string (f 3), .string G]
theorem tabV4 : tabV 4 = grV gP ⟨#[2]⟩ := rfl

theorem grV_at (f : Nat → ByteArray) (G : ByteArray) : ∀ k, k < 4 → (grV f G)[2 * k]? = some (.string (f k)) ∧ (grV f G)[2 * k + 1]? = some (.string G)
  | 0, _ => ⟨rfl, rfl⟩
  | 1, _ => ⟨rfl, rfl⟩
  | 2, _ => ⟨rfl, rfl⟩
  | 3, _ => ⟨rfl, rfl⟩
  | k + 4, h => absurd h (by omega)

set_option maxHeartbeats 1000000 in
set_option maxRecDepth 100000 in
theorem idxGroup_any {w : World} {B g c b1 b2 : Nat} {f : Nat → ByteArray} {G : ByteArray} {q : Nat → Bool} (h : w.ownsRow B 51 2 (.slice (some ⟨g, 0, none⟩) 4 c) 4 (grV f G))
    (hq : ∀ W, Below w.heap.size w W → ∀ k, k < 4 → Calls Tryd.prog 67 #[.agg #[.string (f k), .string G], .pointer (some ⟨b1, 0, none⟩), .pointer (some ⟨b2, 0, none⟩)] W fun e w' => e = .returned (.bool (q k)) ∧ Below W.heap.size W w') :
    Calls Tryd.prog 51 #[.slice (some ⟨g, 0, none⟩) 4 c, .func (.func 67) #[] #[.pointer (some ⟨b1, 0, none⟩), .pointer (some ⟨b2, 0, none⟩)]] w fun e w' => ∃ z : Int, e = .returned (.int .i64 z) ∧ ((∃ k : Nat, k < 4 ∧ z = k ∧ q k = true ∧ ∀ j, j < k → q j = false) ∨ z = -1 ∧ ∀ j, j < 4 → q j = false) ∧ Below w.heap.size w w' := by
  have hgl := (h.lt g rfl).2
  have HC : Hid (∀ W, Below w.heap.size w W → ∀ k, k < 4 → W.cell? ⟨g, k * 2, none⟩ = some (.string (f k)) ∧ W.cell? ⟨g, k * 2 + 1, none⟩ = some (.string G)) := fun W hb k hk => by
    obtain ⟨e1, e2⟩ := grV_at f G k hk
    rw [Nat.mul_comm] at e1 e2
    exact ⟨(hb.cell (p := ⟨g, k * 2, none⟩) hgl).trans ((h.cellAt (k * 2) (by omega)).trans e1), (hb.cell (p := ⟨g, k * 2 + 1, none⟩) hgl).trans ((h.cellAt (k * 2 + 1) (by omega)).trans e2)⟩
  have HQ := Lib.hid hq
  clear hq h
  go_enter Tryd.func51, Tryd.ntmps51
  go_wp2_with fail
  go_loopw [8] (fun i wr => ∃ k : Nat, k ≤ 4 ∧ i = .int .i64 k ∧ (∀ j, j < k → q j = false) ∧ Below w.heap.size w wr) (fun i _ => 5 - (intOf i).toNat)
  case atStart => exact ⟨0, Nat.zero_le _, rfl, fun j hj => absurd hj (by omega), Below.refl _ _⟩
  case round =>
    obtain ⟨k, hk, rfl, hj, hb⟩ := hrel
    by_cases hlt : k < 4
    · obtain ⟨c0, c1⟩ := HC.out wr hb k hlt
      have HO := Lib.hid (HQ.out wr hb k hlt)
      have HJ := Lib.hid hj
      have HB := Lib.hid hb
      obtain ⟨y, hy⟩ : ∃ y, y = q k := ⟨_, rfl⟩
      rw [← hy] at HO
      have HY := Lib.hid hy
      clear hj hb HQ HC hy
      generalize f k = F at *
      cases y with
      | true =>
        go_wp2_with (go_at_call 67; (with_reducible refine HO.out.mono ?_); rintro e w1 ⟨rfl, g1⟩; have B1 := Lib.hid (HB.out.trans (g1.mono HB.out.size)); clear g1)
        go_ret
        exact ⟨_, rfl, .inl ⟨k, hlt, rfl, HY.out.symm, HJ.out⟩, B1.out⟩
      | false =>
        go_wp2_with (go_at_call 67; (with_reducible refine HO.out.mono ?_); rintro e w1 ⟨rfl, g1⟩; have B1 := Lib.hid (HB.out.trans (g1.mono HB.out.size)); clear g1)
        go_roundw
        case rel => exact ⟨k + 1, by omega, by go_num, fun j hj => by
          rcases Nat.lt_or_eq_of_le (Nat.le_of_lt_succ hj) with h | rfl
          · exact HJ.out j h
          · exact HY.out.symm, B1.out⟩
        case measure => simp [intOf]; omega
    · obtain rfl : k = 4 := by omega
      have HJ := Lib.hid hj
      clear HQ HC hlt hj
      go_wp2_with fail
      go_ret
      exact ⟨_, rfl, .inr ⟨rfl, HJ.out⟩, hb⟩

set_option maxHeartbeats 1000000 in
set_option maxRecDepth 100000 in
theorem revGroup_any {w : World} {B g c : Nat} {f : Nat → ByteArray} {G : ByteArray} (h : w.ownsRow B 51 2 (.slice (some ⟨g, 0, none⟩) 4 c) 4 (grV f G)) :
    Calls Tryd.prog 53 #[.slice (some ⟨g, 0, none⟩) 4 c] w fun e w' => e = .returned (.tuple #[]) ∧ w'.ownsRow B 51 2 (.slice (some ⟨g, 0, none⟩) 4 c) 4 (grV (fun k => f (3 - k)) G) ∧ Below B w w' := by
  have hBg := (h.lt g rfl).1
  have hm1 : w.ownsRow B 51 2 (.slice (some ⟨g, 0, none⟩) 4 c) 4 [.string (f 0), .string G, .string (f 1), .string G, .string (f 2), .string G, .string (f 3), .string G] := h
  clear h
  have HF : Hid (grV (fun k => f (3 - k)) G = [.string (f 3), .string G, .string (f 2), .string G, .string (f 1), .string G, .string (f 0), .string G]) := rfl
  rw [HF.out]
  clear HF
  generalize f 0 = f0 at *
  generalize f 1 = f1 at *
  generalize f 2 = f2 at *
  generalize f 3 = f3 at *
  have HR := Lib.hid hm1
  clear hm1
  go_enter Tryd.func53, Tryd.ntmps53
  go_wp2_with fail
  go_loopw [2, 3] (fun i j wr => ∃ k : Nat, k ≤ 2 ∧ i = .int .i64 (k : Int) ∧ j = .int .i64 (3 - (k : Int)) ∧ wr.ownsRow B 51 2 (.slice (some ⟨g, 0, none⟩) 4 c) 4 (match k with
    | 0 => [.string f0, .string G, .string f1, .string G, .string f2, .string G, .string f3, .string G]
    | 1 => [.string f3, .string G, .string f1, .string G, .string f2, .string G, .string f0, .string G]
    | _ => [.string f3, .string G, .string f2, .string G, .string f1, .string G, .string f0, .string G]) ∧ Below B w wr) (fun i _ _ => 3 - (intOf i).toNat)
  case atStart => exact ⟨0, Nat.zero_le _, rfl, rfl, HR.out, Below.refl _ _⟩
  case round =>
    obtain ⟨k, hk, rfl, rfl, hrow, hb⟩ := hrel
    match k, hk with
    | 0, _ =>
      have c0 := hrow.cellAt 0 (by omega)
      have c1 := hrow.cellAt 1 (by omega)
      have c6 := hrow.cellAt 6 (by omega)
      have c7 := hrow.cellAt 7 (by omega)
      have z0 := hrow.frozenAt 0
      have z1 := hrow.frozenAt 1
      have z6 := hrow.frozenAt 6
      have z7 := hrow.frozenAt 7
      have HS := Lib.hid ((((hrow.stored 0 (.string f3)).1.stored 1 (.string G)).1.stored 6 (.string f0)).1.stored 7 (.string G)).1
      have HB := Lib.hid ((((hb.setCell (p := ⟨g, 0, none⟩) hBg (.string f3)).setCell (p := ⟨g, 1, none⟩) hBg (.string G)).setCell (p := ⟨g, 6, none⟩) hBg (.string f0)).setCell (p := ⟨g, 7, none⟩) hBg (.string G))
      clear hrow hb HR
      simp only [List.getElem?_cons_zero, List.getElem?_cons_succ] at c0 c1 c6 c7
      go_wp2_with fail
      go_region_with fail
      all_goals
        go_wp2_with fail
        go_roundw
        case rel => exact ⟨1, by omega, by go_num, by go_num, HS.out.drew, HB.out.drew⟩
        case measure => simp [intOf]
    | 1, _ =>
      have c0 := hrow.cellAt 2 (by omega)
      have c1 := hrow.cellAt 3 (by omega)
      have c6 := hrow.cellAt 4 (by omega)
      have c7 := hrow.cellAt 5 (by omega)
      have z0 := hrow.frozenAt 2
      have z1 := hrow.frozenAt 3
      have z6 := hrow.frozenAt 4
      have z7 := hrow.frozenAt 5
      have HS := Lib.hid ((((hrow.stored 2 (.string f2)).1.stored 3 (.string G)).1.stored 4 (.string f1)).1.stored 5 (.string G)).1
      have HB := Lib.hid ((((hb.setCell (p := ⟨g, 2, none⟩) hBg (.string f2)).setCell (p := ⟨g, 3, none⟩) hBg (.string G)).setCell (p := ⟨g, 4, none⟩) hBg (.string f1)).setCell (p := ⟨g, 5, none⟩) hBg (.string G))
      clear hrow hb HR
      simp only [List.getElem?_cons_zero, List.getElem?_cons_succ] at c0 c1 c6 c7
      go_wp2_with fail
      go_region_with fail
      all_goals
        go_wp2_with fail
        go_roundw
        case rel => exact ⟨2, by omega, by go_num, by go_num, HS.out.drew, HB.out.drew⟩
        case measure => simp [intOf]
    | 2, _ =>
      have HS := Lib.hid hrow
      clear hrow
      go_wp2_with fail
      exact bodyPost_end (results_none rfl _ _ _) rfl ⟨rfl, HS.out, hb⟩
    | k + 3, h => exact absurd h (by omega)
end Go.Proofs.YtihkhcocfhbekaaDoor
