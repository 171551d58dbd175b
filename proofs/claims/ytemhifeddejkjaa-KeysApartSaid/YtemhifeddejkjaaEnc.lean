/- The contract of Encode for data. -/
import Derived.Test.YtemhifeddejkjaaHeads
import Derived.Deep.RegionHeld3
import Derived.Lib.AppendStr
namespace Go.Proofs.Ytemhifeddejkjaa
open Go.RowKit

theorem strCells_bs (l : List UInt8) : Lib.strCells (bs l) = byteCells l := rfl

theorem append_bytes {w : World} {base n : Nat} {v : Value} {xs : List Value} (hown : w.ownsRow base 5 1 v n xs) (l : List UInt8) (hn : n + l.length ≤ 1000000000) (hb : base ≤ w.heap.size) :
    ∃ v' w', (Builtin.append_ #[62, 9] 62 #[v, .string (bs l)]).run Try.prog w = .ok v' w' ∧ w'.ownsRow base 5 1 v' (n + l.length) (xs ++ byteCells l) ∧ w.grownBy w' v.ownBlock := by
  obtain ⟨i0, hi, hz0, hz1, hz2⟩ := info_parts info_u8
  obtain ⟨v', w', h1, h2, h3, _⟩ := Lib.run_append_own_string (P := Try.prog) w base 62 9 62 5 i0 Try.underlying62 Try.underlying9 hi hz0 hz1 hz2 v n xs hown (bs l) (by rw [bs_size]; unfold maxLen; omega) (by rw [bs_size]; omega) hb
  rw [bs_size] at h2
  exact ⟨v', w', h1, h2, h3⟩

theorem step_append_bytes {ops : Array Oper} {o : Oper} {a : Act} {w : World} {K : Act → World → Prop} {Q : Exit → Act → World → Prop} {E : Prop} (hgd : o.guard = none) (s x : Operand)
    (hop : o.op = .call { callee := .builtin .append, args := #[s, x], argTypes := #[62, 9] }) (hty : o.type = 62) {base n : Nat} {v : Value} {xs : List Value} (hs : a.eval s = v)
    (hown : w.ownsRow base 5 1 v n xs) (l : List UInt8) (hx : a.eval x = .string (bs l)) (hl0 : 0 < l.length) (hn : n + l.length ≤ 1000000000) (hb : base ≤ w.heap.size)
    (h : ∀ g cap w', w'.ownsRow base 5 1 (.slice (some ⟨g, 0, none⟩) (n + l.length) cap) (n + l.length) (xs ++ byteCells l) → w.grownBy w' v.ownBlock → K (a.put o.dst (.slice (some ⟨g, 0, none⟩) (n + l.length) cap)) w') :
    if Region.wanted o (yielded ops a.tmps) = true then Oper.wp Try.prog o a w K Q else E := by
  have hw : Region.wanted o (yielded ops a.tmps) = true := by simp [Region.wanted, hgd]
  rw [if_pos hw]
  obtain ⟨v', w', hrun, h2, h3⟩ := append_bytes hown l hn hb
  unfold Oper.wp execOp
  simp only [hop, hty, resolve, invoke, builtin, Sem.run_bind, Sem.run_pure, Result.andThen_ok, List.map_toArray, List.map_cons, List.map_nil, hs, hx, hrun]
  rcases h2.2 with ⟨_, h0⟩ | ⟨g, cap, _, rfl, _⟩
  · omega
  · exact h g cap w' h2 h3

/-- A row of bytes lies in no block of another type. -/
theorem row_ne {w : World} {base n k : Nat} {t e : TypeId} {cs : Array Value} {v : Value} {xs : List Value} (h : w.ownsRow base e 1 v n xs) (hk : Holds w k t cs) (ht : t ≠ e) : some k ≠ v.ownBlock := by
  rcases h.2 with ⟨rfl, _⟩ | ⟨g, cap, cur, rfl, _, hg, _⟩
  · simp [Value.ownBlock]
  · intro he
    have : k = g := by simpa [Value.ownBlock] using he
    subst this
    unfold Holds at hk
    rw [hk] at hg
    injection hg with hg
    injection hg with _ h2
    exact ht h2

set_option maxRecDepth 100000 in
theorem enc1_data {B A : Nat} {L : List Ent} {F : Nat → Prop} {w : World} (ha : ArenaAt B A L F w) {n : Nat} {a b z : Nat} {s : ByteArray} (he : L[n]? = some ⟨⟨1, a, b, s, []⟩, z⟩) (hs : s.size ≤ 200000)
    {ba bo bp m : Nat} {v : Value} {xs : List Value} (hba : w.cell? ⟨ba, 0, none⟩ = some (.pointer (some ⟨A, 0, none⟩))) (hbo : Holds w bo 62 #[v]) (hown : w.ownsRow 0 5 1 v m xs) (hm : m ≤ 200000) :
    Calls Try.prog 22 #[.int .i64 n, .pointer (some ⟨ba, 0, none⟩), .pointer (some ⟨bo, 0, none⟩), .pointer (some ⟨bp, 0, none⟩)] w fun r w' => r = .returned (.tuple #[]) ∧
      ∃ v', Holds w' bo 62 #[v'] ∧ w'.ownsRow 0 5 1 v' (m + (5 + s.size)) (xs ++ byteCells (241 :: cnt s.data.toList)) ∧ Moves (fun k => k = bo ∨ some k = v.ownBlock) w w' := by
  have hv : Calls Try.prog 18 #[.pointer (some ⟨A, 0, none⟩), .int .i64 n] w fun r w' => ∃ g, r = .returned (.tuple #[.agg #[.int .i64 1, .int .i64 a, .int .i64 b, .string s, .slice (some ⟨g, 0, none⟩) 0 0], .bool true]) ∧ Below w.heap.size w w' :=
    (View_some ha he).mono fun r w' ⟨g, h1, _, h3⟩ => ⟨g, h1, h3⟩
  have hl : (241 :: cnt s.data.toList).length = 5 + s.size := by
    have : s.data.toList.length = s.size := by rw [Array.length_toList]; rfl
    simp [cnt, pack4]; omega
  have hbal := World.block_lt_of_cell? w _ hba
  simp only at hbal
  have hbol := hbo.lt
  go_enter Try.func22, Try.ntmps22
  go_wp2_with (
    go_at_call 18
    refine hv.mono ?_
    rintro r w1 ⟨g, rfl, hb1⟩)
  have hNn : ∃ N, N = w1.heap.size := ⟨_, rfl⟩
  obtain ⟨N, hN⟩ := hNn
  have hW : ∃ W0, W0 = (w1.alloc (.cells #[.int .i64 1, .int .i64 a, .int .i64 b, .string s, .slice (some ⟨g, 0, none⟩) 0 0] 52)) := ⟨_, rfl⟩
  obtain ⟨W0, hW0⟩ := hW
  have hN0 : Holds W0 N 52 #[.int .i64 1, .int .i64 a, .int .i64 b, .string s, .slice (some ⟨g, 0, none⟩) 0 0] := by rw [hW0, hN]; exact Holds.new _ _ _
  rw [← hN, ← hW0]
  have hm0 : Moves nobody w W0 := by rw [hW0]; exact (Moves.ofBelow hb1).alloc _
  have hbo1 : Holds W0 bo 62 #[v] := hbo.moves hm0 fun h => h
  have hbl0 := hbo1.lt
  have hbN : bo ≠ N := by have := hb1.size; omega
  clear hb1 hv hba hN hW0
  have n0 : W0.drew.cell? ⟨N, 0, none⟩ = some (.int .i64 1) := hN0.cell 0
  have n1 : W0.drew.cell? ⟨N, 1, none⟩ = some (.int .i64 a) := hN0.cell 1
  have n2 : W0.drew.cell? ⟨N, 2, none⟩ = some (.int .i64 b) := hN0.cell 2
  have n3 : W0.drew.cell? ⟨N, 3, none⟩ = some (.string s) := hN0.cell 3
  have n4 : W0.drew.cell? ⟨N, 4, none⟩ = some (.slice (some ⟨g, 0, none⟩) 0 0) := hN0.cell 4
  have o0 : W0.drew.cell? ⟨bo, 0, none⟩ = some v := hbo1.cell 0
  have oo0 : W0.cell? ⟨bo, 0, none⟩ = some v := hbo1.cell 0
  have hown0 : W0.ownsRow 0 5 1 v m xs := owns_moves hown hm0 fun _ _ h => h
  go_region_law (first
    | (refine step_append_bytes rfl (.tmp 15) (.tmp 17) rfl rfl rfl hown3 (241 :: cnt s.data.toList) rfl (by rw [hl]; omega) (by rw [hl]; omega) (Nat.zero_le _) ?_
       intro g4 cap4 w4 hown4 hg4
       have hbo4 : Holds w4 bo 62 #[v] := (hg4.block bo hbo3.lt (row_ne hown3 hbo3 (by decide))).trans hbo3
       have hN4 : Holds w4 N 52 #[.int .i64 1, .int .i64 a, .int .i64 b, .string s, .slice (some ⟨g, 0, none⟩) 0 0] := (hg4.block N hN3.lt (row_ne hown3 hN3 (by decide))).trans hN3
       have o4 := Holds.cell hbo4 0
       have f4 := Holds.frozen hbo4 0)
    | (go_simp
       go_at_call 23
       refine (head_data a b s (by omega) _ _).mono ?_
       rintro r w3 ⟨rfl, hb3⟩
       have hm3 : Moves nobody W0 w3 := ((Moves.refl nobody W0).drew).trans (T := nobody) (Moves.ofBelow hb3) fun _ h => h.elim
       have hbo3 := hbo1.moves hm3 fun h => h
       have hN3 := hN0.moves hm3 fun h => h
       have o3 := Holds.cell hbo3 0
       have hown3 := owns_moves hown0 hm3 fun _ _ h => h))
  all_goals
    rw [hl] at hown4
    have hbo5 := Holds.set hbo4 0 (.slice (some ⟨g4, 0, none⟩) (m + (5 + s.size)) cap4)
    have hN5 := hN4.moves ((Moves.refl (fun k => k = bo) w4).setCell (p := ⟨bo, 0, none⟩) (.inl rfl) (.slice (some ⟨g4, 0, none⟩) (m + (5 + s.size)) cap4)) (fun h => hbN h.symm)
    have hown5 := owns_moves hown4 ((Moves.refl (fun k => k = bo) w4).setCell (p := ⟨bo, 0, none⟩) (.inl rfl) (.slice (some ⟨g4, 0, none⟩) (m + (5 + s.size)) cap4)) fun k hk => by rintro rfl; exact row_ne hown4 hbo4 (by decide) hk.symm
    have hm4 : Moves (fun k => k = bo ∨ some k = v.ownBlock) w w4 := ((hm0.trans hm3 fun _ h => h.elim).mono (T := fun k => k = bo ∨ some k = v.ownBlock) fun _ h _ => h.elim).grown hg4 fun k hk => .inl (.inr hk.symm)
    have hm5 := hm4.setCell (p := ⟨bo, 0, none⟩) (.inl (.inl rfl)) (.slice (some ⟨g4, 0, none⟩) (m + (5 + s.size)) cap4)
    have HM := Lib.hid hm5
    have HO := Lib.hid hown5
    have HB := Lib.hid hbo5
    clear hm5 hm4 hown5 hown4 hbo5 hbo4 hN4 hg4 hm3 hm0 hN3 hbo3 hown3 hown0 hbo1 hN0 o4 f4 o3 n0 n1 n2 n3 n4 o0 oo0 hown hbo hl
    generalize w4.setCell ⟨bo, 0, none⟩ (.slice (some ⟨g4, 0, none⟩) (m + (5 + s.size)) cap4) = W5 at *
    have q4 := Holds.cell hN5 4
    go_wp2_with fail
    go_loopw [22] (fun i wr => i = .int .i64 0 ∧ wr = W5) (fun _ _ => 0)
    case atStart => exact ⟨rfl, rfl⟩
    case round =>
      obtain ⟨rfl, rfl⟩ := hrel
      go_wp2_with fail
      go_end0
      exact ⟨rfl, _, HB.out, HO.out, HM.out⟩
end Go.Proofs.Ytemhifeddejkjaa
