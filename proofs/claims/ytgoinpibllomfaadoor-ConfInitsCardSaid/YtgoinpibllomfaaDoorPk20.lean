/- Part 20 of what the statement wants. -/
import Derived.Laws.Rows
import Derived.Test.YtgoinpibllomfaaDoorPk15
import Derived.Test.YtgoinpibllomfaaDoorPk19
namespace Go.Proofs.YtgoinpibllomfaaDoor
open Go.RowKit

theorem seven_cells (n : Int) : sevenC n.toNat 7 = (byteCells (digitsP n)).toArray := by
  have h : ∀ m j, ((digitN m j).toNat : Int) = ((m / 128 ^ j % 128 : Nat) : Int) := fun m j => by
    unfold digitN
    rw [UInt8.toNat_ofNat']
    omega
  unfold sevenC digitsP byteCells dig
  simp only [List.map_cons, List.map_nil, h]
theorem kxSevens_any (n : Int) (hn : n < 9223372036854775808) (w : World) : Calls Tryd.prog 54 #[.int .i64 n] w fun e w' => e = .returned (.slice (some ⟨w.heap.size, 0, none⟩) 7 7) ∧ (∀ j u, (byteCells (digitsP n))[j]? = some u → w'.cell? ((⟨w.heap.size, 0, none⟩ : Addr).add j) = some u) ∧ w.heap.size < w'.heap.size ∧ Below w.heap.size w w' :=
  (sevens_raw n hn w).mono (by
    rintro e w' ⟨rfl, rfl⟩
    refine ⟨rfl, fun j u hu => ?_, by rw [World.size_alloc]; omega, (Below.refl _ _).alloc (Nat.le_refl _) _⟩
    rw [seven_cells, Addr.add_lit]
    have := (Holds.new w 113 (byteCells (digitsP n)).toArray).cell (0 + j)
    rw [this]
    simpa using hu)
theorem row_one (w : World) (b : UInt8) : (w.alloc (.cells #[.int .u8 (b.toNat : Int)] 5)).ownsRow w.heap.size 5 1 (.slice (some ⟨w.heap.size, 0, none⟩) 1 1) 1 (byteCells [b]) :=
  ⟨rfl, .inr ⟨w.heap.size, 1, #[.int .u8 (b.toNat : Int)], rfl, Nat.le_refl _, heap_alloc_new w _, Nat.le_refl _, by unfold maxLen; omega, rfl, rfl⟩⟩

set_option maxHeartbeats 2000000 in
set_option maxRecDepth 100000 in
theorem kxCookie_any (s n : Int) (hs : s < 9223372036854775808) (hn : n < 9223372036854775808) (w : World) : Calls Tryd.prog 39 #[.int .i64 s, .int .i64 n] w fun e w' => e = .returned (.string (bs (cookieP s n))) ∧ Below w.heap.size w w' := by
  obtain ⟨i0, hi, hz0, hz1, hz2⟩ := info_parts info_u8
  have HS1 := Lib.hid (fun W => kxSevens_any s hs W)
  have HS2 := Lib.hid (fun W => kxSevens_any n hn W)
  have HO1 : Hid ((w.alloc (.cells #[.int .u8 99] 5)).ownsRow w.heap.size 5 1 (.slice (some ⟨w.heap.size, 0, none⟩) 1 1) 1 (byteCells [99])) := row_one w 99
  have HB1 : Hid (Below w.heap.size w (w.alloc (.cells #[.int .u8 99] 5))) := (Below.refl _ _).alloc (Nat.le_refl _) _
  have hl1 : (byteCells [99]).length = 1 := rfl
  have hds : (byteCells (digitsP s)).length = 7 := rfl
  have hdn : (byteCells (digitsP n)).length = 7 := rfl
  have h1s : ∀ u ∈ byteCells (digitsP s), u.oneCell' = true := byteCells_one _
  have h1n : ∀ u ∈ byteCells (digitsP n), u.oneCell' = true := byteCells_one _
  have HC : Hid (byteCells [99] ++ byteCells (digitsP s) ++ byteCells (digitsP n) ++ [.int .u8 107] = byteCells (cookieP s n)) := by
    show _ = _
    rw [show cookieP s n = [99] ++ digitsP s ++ digitsP n ++ [107] from rfl, byteCells_append, byteCells_append, byteCells_append]
    rfl
  clear hs hn
  generalize byteCells (digitsP s) = DS at *
  generalize byteCells (digitsP n) = DN at *
  generalize byteCells [99] = D1 at *
  go_enter Tryd.func39, Tryd.ntmps39
  go_wp2_with (first
    | (go_at_call 54; (with_reducible refine (HS1.out _).mono ?_); rintro e w2 ⟨rfl, hc2, hl2, g2⟩; have HO2 := Lib.hid (owns_moves HO1.out (Moves.ofBelow (S := nobody) g2) (fun _ _ h => h)); rw [World.size_alloc] at hc2; have HC2 := Lib.hid hc2; have B2 := Lib.hid (HB1.out.trans (g2.mono HB1.out.size)); have hs2 := B2.out.size; clear hc2 g2)
    | (at_builtin; refine wpList_append_lies _ rfl _ _ 94 rfl w.heap.size 5 i0 (.int .u8 0) 1 1 Tryd.underlying94 hi hz0 hz1 hz2 rfl (by decide) _ 1 D1 rfl HO2.out _ 7 7 DS rfl (by omega) HC2.out h1s (by decide) (by unfold maxLen; omega) (by omega) hs2 _ rfl ?_; intro g3 c3 w3 hrow3 hg3 hat3 hlt3; have HO3 := Lib.hid hrow3; have B3 := Lib.hid (B2.out.grown hg3 hs2 (fun j hj => (HO2.out.lt j hj).1)); clear hrow3 hg3 hat3)
    | (go_at_call 54; (with_reducible refine (HS2.out _).mono ?_); rintro e w4 ⟨rfl, hc4, hl4, g4⟩; have HO4 := Lib.hid (owns_moves HO3.out (Moves.ofBelow (S := nobody) g4) (fun _ _ h => h)); have HC4 := Lib.hid hc4; have B4 := Lib.hid (B3.out.trans (g4.mono B3.out.size)); have hs4 := B4.out.size; clear hc4 g4)
    | (at_builtin; refine wpList_append_lies _ rfl _ _ 94 rfl w.heap.size 5 i0 (.int .u8 0) 1 1 Tryd.underlying94 hi hz0 hz1 hz2 rfl (by decide) _ 8 (D1 ++ DS) rfl HO4.out _ 7 7 DN rfl (by omega) HC4.out h1n (by decide) (by unfold maxLen; omega) (by omega) hs4 _ rfl ?_; intro g5 c5 w5 hrow5 hg5 hat5 hlt5; have HO5 := Lib.hid hrow5; have B5 := Lib.hid (B4.out.grown hg5 hs4 (fun j hj => (HO4.out.lt j hj).1)); have hs5 := B5.out.size; clear hrow5 hg5 hat5)
    | (at_builtin; refine wpList_append_lies _ rfl _ _ 94 rfl w.heap.size 5 i0 (.int .u8 0) 1 1 Tryd.underlying94 hi hz0 hz1 hz2 rfl (by decide) _ 15 (D1 ++ DS ++ DN) rfl (HO5.out.alloc _) ⟨w5.heap.size, 0, none⟩ 1 1 [.int .u8 107] rfl rfl (cell_one_new w5 _ _) (by simp [Value.oneCell']) (by decide) (by unfold maxLen; omega) (by omega) (by rw [World.size_alloc]; omega) _ rfl ?_; intro g6 c6 w6 hrow6 hg6 hat6 hlt6; have B6 := Lib.hid ((B5.out.alloc hs5 _).grown hg6 (by rw [World.size_alloc]; omega) (fun j hj => (HO5.out.lt j hj).1)); rw [HC.out] at hrow6; have hcv := run_string_own hrow6; clear hrow6 hg6 hat6))
  go_ret
  exact ⟨rfl, B6.out⟩
end Go.Proofs.YtgoinpibllomfaaDoor
