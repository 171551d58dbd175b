/- Part 20 of what the statement wants. -/
import Derived.LoopTactic
import Derived.Test.YtlalkpgipenkaaaGreatDoorPk01
import Derived.Test.YtlalkpgipenkaaaGreatDoorPk19
namespace Go.Proofs.YtlalkpgipenkaaaGreatDoor
open Go.RowKit

set_option maxHeartbeats 1000000 in
set_option maxRecDepth 100000 in
theorem slCheck_pack {w : World} {C S X Y : Nat}
    (c0 : w.cell? ⟨C, 0, none⟩ = some (.func (.func 90) #[] #[.pointer (some ⟨S, 0, none⟩)])) (d0 : w.cell? ⟨C, 1, none⟩ = some (.int .i64 4))
    (h0 : ∀ W, Below w.heap.size w W → Calls Tryz.prog 90 #[.pointer (some ⟨S, 0, none⟩)] W fun e w' => e = .returned (.bool true) ∧ Below W.heap.size W w')
    (c1 : w.cell? ⟨C, 2, none⟩ = some (.func (.func 91) #[] #[.pointer (some ⟨S, 0, none⟩)])) (d1 : w.cell? ⟨C, 3, none⟩ = some (.int .i64 2))
    (h1 : ∀ W, Below w.heap.size w W → Calls Tryz.prog 91 #[.pointer (some ⟨S, 0, none⟩)] W fun e w' => e = .returned (.bool true) ∧ Below W.heap.size W w')
    (c2 : w.cell? ⟨C, 4, none⟩ = some (.func (.func 92) #[] #[.pointer (some ⟨X, 0, none⟩), .pointer (some ⟨Y, 0, none⟩)])) (d2 : w.cell? ⟨C, 5, none⟩ = some (.int .i64 1))
    (h2 : ∀ W, Below w.heap.size w W → Calls Tryz.prog 92 #[.pointer (some ⟨X, 0, none⟩), .pointer (some ⟨Y, 0, none⟩)] W fun e w' => e = .returned (.bool true) ∧ Below W.heap.size W w')
    : Calls Tryz.prog 89 #[.slice (some ⟨C, 0, none⟩) 3 3] w fun e w' => e = .returned (.int .i64 0) ∧ Below w.heap.size w w' := by
  have H0 := Lib.hid h0
  have C0 := Lib.hid c0
  have D0 := Lib.hid d0
  have H1 := Lib.hid h1
  have C1 := Lib.hid c1
  have D1 := Lib.hid d1
  have H2 := Lib.hid h2
  have C2 := Lib.hid c2
  have D2 := Lib.hid d2
  clear h0 c0 d0 h1 c1 d1 h2 c2 d2
  go_enter Tryz.func89, Tryz.ntmps89
  go_wp2_with fail
  go_loopw [7] (fun i wr => ∃ k : Nat, k ≤ 3 ∧ i = .int .i64 k ∧ Below w.heap.size w wr) (fun i _ => 3 - (intOf i).toNat)
  case atStart => exact ⟨0, Nat.zero_le _, rfl, Below.refl _ _⟩
  case round =>
    obtain ⟨k, hk, rfl, hB⟩ := hrel
    have HB := Lib.hid hB
    have HBx := Lib.hid (fun row => hB.alloc hB.size row)
    clear hB
    rcases (by omega : k = 0 ∨ k = 1 ∨ k = 2 ∨ k = 3) with rfl | rfl | rfl | rfl
    · clear hk
      have c0 := (HB.out.cell (p := ⟨C, 0, none⟩) (World.block_lt_of_cell? w _ C0.out)).trans C0.out
      have d0 := (HB.out.cell (p := ⟨C, 1, none⟩) (World.block_lt_of_cell? w _ D0.out)).trans D0.out
      go_wp2_with (go_at_call 90; (with_reducible refine (H0.out _ (HBx.out _)).mono ?_); rintro e w4 ⟨rfl, b4⟩)
      go_roundw
      case rel => exact ⟨1, by omega, by go_num, (HBx.out _).trans (b4.mono (HBx.out _).size)⟩
      case measure => simp [intOf]
    · clear hk
      have c1 := (HB.out.cell (p := ⟨C, 2, none⟩) (World.block_lt_of_cell? w _ C1.out)).trans C1.out
      have d1 := (HB.out.cell (p := ⟨C, 3, none⟩) (World.block_lt_of_cell? w _ D1.out)).trans D1.out
      go_wp2_with (go_at_call 91; (with_reducible refine (H1.out _ (HBx.out _)).mono ?_); rintro e w4 ⟨rfl, b4⟩)
      go_roundw
      case rel => exact ⟨2, by omega, by go_num, (HBx.out _).trans (b4.mono (HBx.out _).size)⟩
      case measure => simp [intOf]
    · clear hk
      have c2 := (HB.out.cell (p := ⟨C, 4, none⟩) (World.block_lt_of_cell? w _ C2.out)).trans C2.out
      have d2 := (HB.out.cell (p := ⟨C, 5, none⟩) (World.block_lt_of_cell? w _ D2.out)).trans D2.out
      go_wp2_with (go_at_call 92; (with_reducible refine (H2.out _ (HBx.out _)).mono ?_); rintro e w4 ⟨rfl, b4⟩)
      go_roundw
      case rel => exact ⟨3, by omega, by go_num, (HBx.out _).trans (b4.mono (HBx.out _).size)⟩
      case measure => simp [intOf]
    · clear hk
      go_wp2_with fail
      go_ret
      exact ⟨rfl, HB.out⟩

set_option maxHeartbeats 1000000 in
set_option maxRecDepth 100000 in
theorem slCheck_open {w : World} {C K V X Y : Nat}
    (c0 : w.cell? ⟨C, 0, none⟩ = some (.func (.func 96) #[] #[.pointer (some ⟨K, 0, none⟩)])) (d0 : w.cell? ⟨C, 1, none⟩ = some (.int .i64 8))
    (h0 : ∀ W, Below w.heap.size w W → Calls Tryz.prog 96 #[.pointer (some ⟨K, 0, none⟩)] W fun e w' => e = .returned (.bool true) ∧ Below W.heap.size W w')
    (c1 : w.cell? ⟨C, 2, none⟩ = some (.func (.func 97) #[] #[.pointer (some ⟨V, 0, none⟩)])) (d1 : w.cell? ⟨C, 3, none⟩ = some (.int .i64 8))
    (h1 : ∀ W, Below w.heap.size w W → Calls Tryz.prog 97 #[.pointer (some ⟨V, 0, none⟩)] W fun e w' => e = .returned (.bool true) ∧ Below W.heap.size W w')
    (c2 : w.cell? ⟨C, 4, none⟩ = some (.func (.func 98) #[] #[.pointer (some ⟨V, 0, none⟩), .pointer (some ⟨X, 0, none⟩)])) (d2 : w.cell? ⟨C, 5, none⟩ = some (.int .i64 8))
    (h2 : ∀ W, Below w.heap.size w W → Calls Tryz.prog 98 #[.pointer (some ⟨V, 0, none⟩), .pointer (some ⟨X, 0, none⟩)] W fun e w' => e = .returned (.bool true) ∧ Below W.heap.size W w')
    (c3 : w.cell? ⟨C, 6, none⟩ = some (.func (.func 99) #[] #[.pointer (some ⟨V, 0, none⟩), .pointer (some ⟨Y, 0, none⟩)])) (d3 : w.cell? ⟨C, 7, none⟩ = some (.int .i64 8))
    (h3 : ∀ W, Below w.heap.size w W → Calls Tryz.prog 99 #[.pointer (some ⟨V, 0, none⟩), .pointer (some ⟨Y, 0, none⟩)] W fun e w' => e = .returned (.bool true) ∧ Below W.heap.size W w')
    : Calls Tryz.prog 89 #[.slice (some ⟨C, 0, none⟩) 4 4] w fun e w' => e = .returned (.int .i64 0) ∧ Below w.heap.size w w' := by
  have H0 := Lib.hid h0
  have C0 := Lib.hid c0
  have D0 := Lib.hid d0
  have H1 := Lib.hid h1
  have C1 := Lib.hid c1
  have D1 := Lib.hid d1
  have H2 := Lib.hid h2
  have C2 := Lib.hid c2
  have D2 := Lib.hid d2
  have H3 := Lib.hid h3
  have C3 := Lib.hid c3
  have D3 := Lib.hid d3
  clear h0 c0 d0 h1 c1 d1 h2 c2 d2 h3 c3 d3
  go_enter Tryz.func89, Tryz.ntmps89
  go_wp2_with fail
  go_loopw [7] (fun i wr => ∃ k : Nat, k ≤ 4 ∧ i = .int .i64 k ∧ Below w.heap.size w wr) (fun i _ => 4 - (intOf i).toNat)
  case atStart => exact ⟨0, Nat.zero_le _, rfl, Below.refl _ _⟩
  case round =>
    obtain ⟨k, hk, rfl, hB⟩ := hrel
    have HB := Lib.hid hB
    have HBx := Lib.hid (fun row => hB.alloc hB.size row)
    clear hB
    rcases (by omega : k = 0 ∨ k = 1 ∨ k = 2 ∨ k = 3 ∨ k = 4) with rfl | rfl | rfl | rfl | rfl
    · clear hk
      have c0 := (HB.out.cell (p := ⟨C, 0, none⟩) (World.block_lt_of_cell? w _ C0.out)).trans C0.out
      have d0 := (HB.out.cell (p := ⟨C, 1, none⟩) (World.block_lt_of_cell? w _ D0.out)).trans D0.out
      go_wp2_with (go_at_call 96; (with_reducible refine (H0.out _ (HBx.out _)).mono ?_); rintro e w4 ⟨rfl, b4⟩)
      go_roundw
      case rel => exact ⟨1, by omega, by go_num, (HBx.out _).trans (b4.mono (HBx.out _).size)⟩
      case measure => simp [intOf]
    · clear hk
      have c1 := (HB.out.cell (p := ⟨C, 2, none⟩) (World.block_lt_of_cell? w _ C1.out)).trans C1.out
      have d1 := (HB.out.cell (p := ⟨C, 3, none⟩) (World.block_lt_of_cell? w _ D1.out)).trans D1.out
      go_wp2_with (go_at_call 97; (with_reducible refine (H1.out _ (HBx.out _)).mono ?_); rintro e w4 ⟨rfl, b4⟩)
      go_roundw
      case rel => exact ⟨2, by omega, by go_num, (HBx.out _).trans (b4.mono (HBx.out _).size)⟩
      case measure => simp [intOf]
    · clear hk
      have c2 := (HB.out.cell (p := ⟨C, 4, none⟩) (World.block_lt_of_cell? w _ C2.out)).trans C2.out
      have d2 := (HB.out.cell (p := ⟨C, 5, none⟩) (World.block_lt_of_cell? w _ D2.out)).trans D2.out
      go_wp2_with (go_at_call 98; (with_reducible refine (H2.out _ (HBx.out _)).mono ?_); rintro e w4 ⟨rfl, b4⟩)
      go_roundw
      case rel => exact ⟨3, by omega, by go_num, (HBx.out _).trans (b4.mono (HBx.out _).size)⟩
      case measure => simp [intOf]
    · clear hk
      have c3 := (HB.out.cell (p := ⟨C, 6, none⟩) (World.block_lt_of_cell? w _ C3.out)).trans C3.out
      have d3 := (HB.out.cell (p := ⟨C, 7, none⟩) (World.block_lt_of_cell? w _ D3.out)).trans D3.out
      go_wp2_with (go_at_call 99; (with_reducible refine (H3.out _ (HBx.out _)).mono ?_); rintro e w4 ⟨rfl, b4⟩)
      go_roundw
      case rel => exact ⟨4, by omega, by go_num, (HBx.out _).trans (b4.mono (HBx.out _).size)⟩
      case measure => simp [intOf]
    · clear hk
      go_wp2_with fail
      go_ret
      exact ⟨rfl, HB.out⟩

set_option maxHeartbeats 1000000 in
set_option maxRecDepth 100000 in
theorem slCheck_no {w : World} {C K V X Y : Nat}
    (c0 : w.cell? ⟨C, 0, none⟩ = some (.func (.func 96) #[] #[.pointer (some ⟨K, 0, none⟩)])) (d0 : w.cell? ⟨C, 1, none⟩ = some (.int .i64 8))
    (h0 : ∀ W, Below w.heap.size w W → Calls Tryz.prog 96 #[.pointer (some ⟨K, 0, none⟩)] W fun e w' => e = .returned (.bool true) ∧ Below W.heap.size W w')
    (c1 : w.cell? ⟨C, 2, none⟩ = some (.func (.func 97) #[] #[.pointer (some ⟨V, 0, none⟩)])) (d1 : w.cell? ⟨C, 3, none⟩ = some (.int .i64 8))
    (h1 : ∀ W, Below w.heap.size w W → Calls Tryz.prog 97 #[.pointer (some ⟨V, 0, none⟩)] W fun e w' => e = .returned (.bool true) ∧ Below W.heap.size W w')
    (c2 : w.cell? ⟨C, 4, none⟩ = some (.func (.func 98) #[] #[.pointer (some ⟨V, 0, none⟩), .pointer (some ⟨X, 0, none⟩)])) (d2 : w.cell? ⟨C, 5, none⟩ = some (.int .i64 8))
    (h2 : ∀ W, Below w.heap.size w W → Calls Tryz.prog 98 #[.pointer (some ⟨V, 0, none⟩), .pointer (some ⟨X, 0, none⟩)] W fun e w' => e = .returned (.bool true) ∧ Below W.heap.size W w')
    (c3 : w.cell? ⟨C, 6, none⟩ = some (.func (.func 99) #[] #[.pointer (some ⟨V, 0, none⟩), .pointer (some ⟨Y, 0, none⟩)])) (d3 : w.cell? ⟨C, 7, none⟩ = some (.int .i64 8))
    (h3 : ∀ W, Below w.heap.size w W → Calls Tryz.prog 99 #[.pointer (some ⟨V, 0, none⟩), .pointer (some ⟨Y, 0, none⟩)] W fun e w' => e = .returned (.bool false) ∧ Below W.heap.size W w')
    : Calls Tryz.prog 89 #[.slice (some ⟨C, 0, none⟩) 4 4] w fun e w' => e = .returned (.int .i64 8) ∧ Below w.heap.size w w' := by
  have H0 := Lib.hid h0
  have C0 := Lib.hid c0
  have D0 := Lib.hid d0
  have H1 := Lib.hid h1
  have C1 := Lib.hid c1
  have D1 := Lib.hid d1
  have H2 := Lib.hid h2
  have C2 := Lib.hid c2
  have D2 := Lib.hid d2
  have H3 := Lib.hid h3
  have C3 := Lib.hid c3
  have D3 := Lib.hid d3
  clear h0 c0 d0 h1 c1 d1 h2 c2 d2 h3 c3 d3
  go_enter Tryz.func89, Tryz.ntmps89
  go_wp2_with fail
  go_loopw [7] (fun i wr => ∃ k : Nat, k ≤ 3 ∧ i = .int .i64 k ∧ Below w.heap.size w wr) (fun i _ => 4 - (intOf i).toNat)
  case atStart => exact ⟨0, Nat.zero_le _, rfl, Below.refl _ _⟩
  case round =>
    obtain ⟨k, hk, rfl, hB⟩ := hrel
    have HB := Lib.hid hB
    have HBx := Lib.hid (fun row => hB.alloc hB.size row)
    clear hB
    rcases (by omega : k = 0 ∨ k = 1 ∨ k = 2 ∨ k = 3) with rfl | rfl | rfl | rfl
    · clear hk
      have c0 := (HB.out.cell (p := ⟨C, 0, none⟩) (World.block_lt_of_cell? w _ C0.out)).trans C0.out
      have d0 := (HB.out.cell (p := ⟨C, 1, none⟩) (World.block_lt_of_cell? w _ D0.out)).trans D0.out
      go_wp2_with (go_at_call 96; (with_reducible refine (H0.out _ (HBx.out _)).mono ?_); rintro e w4 ⟨rfl, b4⟩)
      go_roundw
      case rel => exact ⟨1, by omega, by go_num, (HBx.out _).trans (b4.mono (HBx.out _).size)⟩
      case measure => simp [intOf]
    · clear hk
      have c1 := (HB.out.cell (p := ⟨C, 2, none⟩) (World.block_lt_of_cell? w _ C1.out)).trans C1.out
      have d1 := (HB.out.cell (p := ⟨C, 3, none⟩) (World.block_lt_of_cell? w _ D1.out)).trans D1.out
      go_wp2_with (go_at_call 97; (with_reducible refine (H1.out _ (HBx.out _)).mono ?_); rintro e w4 ⟨rfl, b4⟩)
      go_roundw
      case rel => exact ⟨2, by omega, by go_num, (HBx.out _).trans (b4.mono (HBx.out _).size)⟩
      case measure => simp [intOf]
    · clear hk
      have c2 := (HB.out.cell (p := ⟨C, 4, none⟩) (World.block_lt_of_cell? w _ C2.out)).trans C2.out
      have d2 := (HB.out.cell (p := ⟨C, 5, none⟩) (World.block_lt_of_cell? w _ D2.out)).trans D2.out
      go_wp2_with (go_at_call 98; (with_reducible refine (H2.out _ (HBx.out _)).mono ?_); rintro e w4 ⟨rfl, b4⟩)
      go_roundw
      case rel => exact ⟨3, by omega, by go_num, (HBx.out _).trans (b4.mono (HBx.out _).size)⟩
      case measure => simp [intOf]
    · clear hk
      have c3 := (HB.out.cell (p := ⟨C, 6, none⟩) (World.block_lt_of_cell? w _ C3.out)).trans C3.out
      have d3 := (HB.out.cell (p := ⟨C, 7, none⟩) (World.block_lt_of_cell? w _ D3.out)).trans D3.out
      have HC9 : Hid (∀ W, Below (wr.heap.size + 1) (wr.alloc (.cells #[.func (.func 99) #[] #[.pointer (some ⟨V, 0, none⟩), .pointer (some ⟨Y, 0, none⟩)], .int .i64 8] 136)) W → W.cell? ⟨wr.heap.size, 1, none⟩ = some (.int .i64 8)) := fun W hb => (hb.cell (p := ⟨wr.heap.size, 1, none⟩) (Nat.lt_succ_self _)).trans ((Holds.new wr 136 #[.func (.func 99) #[] #[.pointer (some ⟨V, 0, none⟩), .pointer (some ⟨Y, 0, none⟩)], .int .i64 8]).cell 1)
      have HSz : Hid ((wr.alloc (.cells #[.func (.func 99) #[] #[.pointer (some ⟨V, 0, none⟩), .pointer (some ⟨Y, 0, none⟩)], .int .i64 8] 136)).heap.size = wr.heap.size + 1) := World.size_alloc _ _
      go_wp2_with (go_at_call 99; (with_reducible refine (H3.out _ (HBx.out _)).mono ?_); rintro e w4 ⟨rfl, b4⟩; have c9 := HC9.out _ (by rw [← HSz.out]; exact b4))
      try simp only [Exit.inBlock, Exit.then]
      go_ret
      exact ⟨rfl, (HBx.out _).trans (b4.mono (HBx.out _).size)⟩
end Go.Proofs.YtlalkpgipenkaaaGreatDoor

namespace Go.Proofs.YtlalkpgipenkaaaGreatDoor
open Go.RowKit

def hd0 : List UInt8 → UInt8
  | [] => 0
  | b :: _ => b
def plainL : List UInt8 → List UInt8
  | [] => []
  | b :: l => if b = 0 then plainL l else b :: l
def strLen : Value → Nat
  | .string s => s.size
  | _ => 0

theorem drop_one (b : UInt8) (l : List UInt8) : (bs (b :: l)).extract 1 (bs (b :: l)).size = bs l := by
  have := bs_drop (b :: l) 1
  simpa using this

set_option maxRecDepth 100000 in
theorem trimByte_any (l : List UInt8) (hl : l.length ≤ 1000000) (w : World) : Calls Tryz.prog 235 #[.string (bs l), .int .u8 0] w fun e w' => e = .returned (.string (bs (plainL l))) ∧ w' = w := by
  go_enter Tryz.func235, Tryz.ntmps235
  go_wp2_with fail
  go_loopw [0] (fun v wr => ∃ m : List UInt8, m.length ≤ 1000000 ∧ v = .string (bs m) ∧ plainL m = plainL l ∧ wr = w) (fun v _ => strLen v)
  case atStart => exact ⟨l, hl, rfl, rfl, rfl⟩
  case round =>
    obtain ⟨m, hm, rfl, hp, rfl⟩ := hrel
    cases m with
    | nil =>
      have HP : Hid (plainL l = []) := hp.symm
      have HE : Hid (bs ([] : List UInt8) = ⟨#[]⟩) := rfl
      rw [show bs ([] : List UInt8) = ⟨#[]⟩ from rfl]
      clear hp
      go_wp2_with fail
      go_ret
      exact ⟨by rw [HP.out, HE.out]; rfl, rfl⟩
    | cons b r =>
      have hi := fun W => index_bs (b :: r) 0 (by simp) W
      simp only [List.getElem_cons_zero] at hi
      have hi0 : ∀ W : World, (Instr.index 9 (.string (bs (b :: r))) (.int .i64 0)).run Tryz.prog W = .ok (.int .u8 (b.toNat : Int)) W := hi
      have hd := drop_one b r
      have hsz := bs_size (b :: r)
      simp only [List.length_cons] at hm hsz
      have hrs := bs_size r
      by_cases hb : b = 0
      · have HP : Hid (plainL r = plainL l) := by
          show plainL r = _
          rw [← hp, plainL, if_pos hb]
        have hbn : b.toNat = 0 := by rw [hb]; rfl
        rw [hbn] at hi0
        have hi1 : ∀ W : World, (Instr.index 9 (.string (bs (b :: r))) (.int .i64 0)).run Tryz.prog W = .ok (.int .u8 0) W := hi0
        clear hi hi0 hp hbn hb
        have hpos : 0 < (bs (b :: r)).size := by omega
        have hle : (bs (b :: r)).size ≤ 1000000 := by omega
        have HR : Hid (∃ T, T = bs r) := ⟨_, rfl⟩
        obtain ⟨T, hT⟩ := HR.out
        rw [← hT] at hd hrs
        rw [hsz] at hd
        have HT := Lib.hid hT
        have HD := Lib.hid hd
        clear hT
        generalize bs (b :: r) = B at *
        go_wp2_with fail
        go_roundw
        case rel => exact ⟨r, by omega, by rw [HT.out], HP.out, trivial⟩
        case measure => simp only [strLen]; omega
      · have HP : Hid (plainL l = b :: r) := by
          show plainL l = _
          rw [← hp, plainL, if_neg hb]
        have hbn : b.toNat ≠ 0 := fun e => hb (UInt8.toNat_inj.1 e)
        have hq : ((b.toNat : Int) == 0) = false := by
          rw [beq_eq_false_iff_ne]
          omega
        have HB : Hid (bs (b :: r) = bs (b :: r)) := rfl
        have hpos : 0 < (bs (b :: r)).size := by omega
        have hle : (bs (b :: r)).size ≤ 1000000 := by omega
        clear hi hp hb hbn hd
        obtain ⟨B, hB⟩ : ∃ B, B = bs (b :: r) := ⟨_, rfl⟩
        rw [← hB] at hi0 hsz hpos hle ⊢
        have HBB := Lib.hid hB
        clear hB
        generalize b.toNat = n at *
        go_wp2_with fail
        go_ret
        exact ⟨by rw [HP.out, ← HBB.out]; rfl, rfl⟩

set_option maxRecDepth 100000 in
theorem TrimLeft_any (l : List UInt8) (hl : l.length ≤ 1000000) (w : World) : Calls Tryz.prog 226 #[.string (bs l), .string ⟨#[0]⟩] w fun e w' => e = .returned (.string (bs (plainL l))) ∧ w' = w := by
  cases l with
  | nil =>
    rw [show bs ([] : List UInt8) = ⟨#[]⟩ from rfl]
    have HP : Hid (bs (plainL []) = ⟨#[]⟩) := rfl
    go_enter Tryz.func226, Tryz.ntmps226
    go_wp2
    go_ret
    exact ⟨by rw [HP.out]; rfl, rfl⟩
  | cons b r =>
    have hne : (bs (b :: r)).toList.isEmpty = false := by
      rw [ByteArray.toList_eq]
      simp [bs]
    have hc := Lib.hid (trimByte_any (b :: r) hl)
    have hi0 : ∀ W : World, (Instr.index 9 (.string ⟨#[0]⟩) (.int .i64 0)).run Tryz.prog W = .ok (.int .u8 0) W := fun W => index_bs [0] 0 (by simp) W
    have hz : (⟨#[0]⟩ : ByteArray).toList.isEmpty = false := by rw [ByteArray.toList_eq]; rfl
    have hz1 : (⟨#[0]⟩ : ByteArray).size = 1 := rfl
    generalize (⟨#[0]⟩ : ByteArray) = Z at *
    generalize bs (b :: r) = B at *
    go_enter Tryz.func226, Tryz.ntmps226
    go_wp2_with (go_at_call 235; refine (hc.out _).mono ?_; rintro e w1 ⟨rfl, rfl⟩)
    go_ret
    exact ⟨rfl, rfl⟩

theorem unpadded_any (l : List UInt8) (hl : l.length ≤ 1000000) (w : World) : Calls Tryz.prog 205 #[.string (bs l)] w fun e w' => e = .returned (.string (bs (plainL l))) ∧ w' = w := by
  have hc := Lib.hid (TrimLeft_any l hl)
  generalize bs l = B at *
  go_enter Tryz.func205, Tryz.ntmps205
  go_wp2_with (go_at_call 226; refine (hc.out _).mono ?_; rintro e w1 ⟨rfl, rfl⟩)
  go_ret
  exact ⟨rfl, rfl⟩

theorem wByte_any (b : UInt8) (w : World) : Calls Tryz.prog 33 #[.int .u8 (b.toNat : Int)] w fun e w' => e = .returned (.string (bs [b])) ∧ Below w.heap.size w w' := by
  have hcv := run_string_new w [b] (by simp) #[.int .u8 (b.toNat : Int)] (by simp [byteCells])
  simp only [List.length_cons, List.length_nil] at hcv
  generalize b.toNat = n at *
  generalize bs [b] = B at *
  go_enter Tryz.func33, Tryz.ntmps33
  go_wp2
  go_ret
  exact ⟨rfl, (Below.refl _ _).alloc (Nat.le_refl _) _⟩
theorem wByte_zero (w : World) : Calls Tryz.prog 33 #[.int .u8 0] w fun e w' => e = .returned (.string (bs [0])) ∧ Below w.heap.size w w' := wByte_any 0 w
theorem wByte_one (w : World) : Calls Tryz.prog 33 #[.int .u8 1] w fun e w' => e = .returned (.string (bs [1])) ∧ Below w.heap.size w w' := wByte_any 1 w

def boolL (x : Bool) : List UInt8 := if x then [1] else [0]
theorem wBool_any (x : Bool) (w : World) : Calls Tryz.prog 210 #[.bool x] w fun e w' => e = .returned (.string (bs (boolL x))) ∧ Below w.heap.size w w' := by
  cases x with
  | true =>
    go_enter Tryz.func210, Tryz.ntmps210
    go_wp2_with (go_at_call 33; refine (wByte_one _).mono ?_; rintro e w1 ⟨rfl, hb⟩)
    go_ret
    exact ⟨rfl, hb⟩
  | false =>
    go_enter Tryz.func210, Tryz.ntmps210
    go_wp2_with (go_at_call 33; refine (wByte_zero _).mono ?_; rintro e w1 ⟨rfl, hb⟩)
    go_ret
    exact ⟨rfl, hb⟩

def wholeL (l : List UInt8) : List UInt8 := if 128 ≤ (hd0 (plainL l)).toNat then 0 :: plainL l else plainL l
theorem plainL_le : ∀ l : List UInt8, (plainL l).length ≤ l.length
  | [] => Nat.le_refl _
  | b :: l => by
    have := plainL_le l
    unfold plainL
    split
    · simp; omega
    · exact Nat.le_refl _
theorem wholeL_le (l : List UInt8) : (wholeL l).length ≤ l.length + 1 := by
  have := plainL_le l
  unfold wholeL
  split
  · simp; omega
  · omega

set_option maxRecDepth 100000 in
theorem wWhole_any (l : List UInt8) (hl : l.length ≤ 100000) (w : World) : Calls Tryz.prog 212 #[.string (bs l)] w fun e w' => e = .returned (.string (bs (cnt (wholeL l)))) ∧ Below w.heap.size w w' := by
  have HU := Lib.hid (fun W => unpadded_any l (by omega) W)
  have hw := plainL_le l
  have hwh := wholeL_le l
  have HT := Lib.hid (fun W => wText_any (wholeL l) (by omega) W)
  have HW : Hid (wholeL l = if 128 ≤ (hd0 (plainL l)).toNat then 0 :: plainL l else plainL l) := rfl
  generalize wholeL l = wl at *
  generalize plainL l = p at *
  obtain ⟨B, hB⟩ : ∃ B, B = bs l := ⟨_, rfl⟩
  rw [← hB] at HU ⊢
  clear hB
  cases p with
  | nil =>
    have HW2 : Hid (wl = []) := HW.out
    have hT : Hid (∀ W : World, Calls Tryz.prog 142 #[.string ⟨#[]⟩] W fun e w' => e = .returned (.string (bs (cnt wl))) ∧ Below W.heap.size W w') := by
      have := HT.out
      rw [HW2.out] at this ⊢
      exact this
    have HU2 : Hid (∀ W : World, Calls Tryz.prog 205 #[.string B] W fun e w' => e = .returned (.string ⟨#[]⟩) ∧ w' = W) := HU.out
    clear HU HT HW HW2 hw
    generalize cnt wl = cl at *
    go_enter Tryz.func212, Tryz.ntmps212
    go_wp2_with (first
      | (go_at_call 205; refine (HU2.out _).mono ?_; rintro e w' ⟨rfl, rfl⟩)
      | (go_at_call 142; refine (hT.out _).mono ?_; rintro e w' ⟨rfl, hb⟩))
    go_ret
    exact ⟨rfl, hb⟩
  | cons b r =>
    have hne : (bs (b :: r)).toList.isEmpty = false := by
      rw [ByteArray.toList_eq]
      simp [bs]
    have hi0 : ∀ W : World, (Instr.index 9 (.string (bs (b :: r))) (.int .i64 0)).run Tryz.prog W = .ok (.int .u8 (b.toNat : Int)) W := fun W => index_bs (b :: r) 0 (by simp) W
    have hsz := bs_size (b :: r)
    by_cases hb : 128 ≤ b.toNat
    · have HW2 : wl = 0 :: b :: r := by
        have := HW.out
        rwa [if_pos (by exact hb)] at this
      have hq : ((b.toNat : Int) ≥ 128) := by omega
      have HA : Hid (bs [0] ++ bs (b :: r) = bs (0 :: b :: r)) := bs_append _ _
      rw [HW2] at HT ⊢
      have h1 : (bs [0]).size ≤ 1 := by rw [bs_size]; simp
      have h2 : (bs (b :: r)).size ≤ 1000000 := by rw [bs_size]; omega
      rw [← HA.out] at HT
      generalize cnt (0 :: b :: r) = cl at *
      clear HW HW2 hsz hb HA
      generalize bs (b :: r) = C at *
      obtain ⟨Z, hZ⟩ : ∃ Z, Z = bs [0] := ⟨_, rfl⟩
      have hz := fun W => wByte_zero W
      rw [← hZ] at HT h1
      have HZ : Hid (∀ W : World, Calls Tryz.prog 33 #[.int .u8 0] W fun e w' => e = .returned (.string Z) ∧ Below W.heap.size W w') := by rw [hZ]; exact hz
      clear hZ hz
      generalize b.toNat = n at *
      go_enter Tryz.func212, Tryz.ntmps212
      go_wp2_with (first
        | (go_at_call 205; refine (HU.out _).mono ?_; rintro e w1 ⟨rfl, rfl⟩)
        | (go_at_call 33; refine (HZ.out _).mono ?_; rintro e w2 ⟨rfl, hb2⟩)
        | (go_at_call 142; refine (HT.out _).mono ?_; rintro e w3 ⟨rfl, hb3⟩))
      go_ret
      exact ⟨rfl, hb2.trans (hb3.mono hb2.size)⟩
    · have HW2 : wl = b :: r := by
        have := HW.out
        rwa [if_neg (by exact hb)] at this
      have hq : decide ((b.toNat : Int) ≥ 128) = false := decide_eq_false (by omega)
      rw [HW2] at HT ⊢
      generalize cnt (b :: r) = cl at *
      clear HW HW2 hsz hb
      generalize bs (b :: r) = C at *
      generalize b.toNat = n at *
      go_enter Tryz.func212, Tryz.ntmps212
      go_wp2_with (first
        | (go_at_call 205; refine (HU.out _).mono ?_; rintro e w1 ⟨rfl, rfl⟩)
        | (go_at_call 142; refine (HT.out _).mono ?_; rintro e w3 ⟨rfl, hb3⟩))
      go_ret
      exact ⟨rfl, hb3⟩

end Go.Proofs.YtlalkpgipenkaaaGreatDoor
