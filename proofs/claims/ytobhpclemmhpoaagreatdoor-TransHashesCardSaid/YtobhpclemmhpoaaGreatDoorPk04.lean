/- Part 4 of what the statement wants. -/
import Derived.RegionTactic
import Derived.Deep.QuietTactic
import Derived.BigQuiet
import Derived.Deep.RegionLaw
import Derived.Maps.AppendAt
import Derived.WalkSpells
import Derived.BigRegion
import Derived.Laws.BitsAllLaws
import Derived.Laws.BitsLemmas
import Derived.Test.YtobhpclemmhpoaaGreatDoorPk00
import Derived.Test.YtobhpclemmhpoaaGreatDoorPk03
namespace Go.Proofs.YtobhpclemmhpoaaGreatDoor
open Go.RowKit

theorem owns_moves {S : Nat → Prop} {w w' : World} {B : Nat} {e : TypeId} {size n : Nat} {v : Value} {xs : List Value} (h : w.ownsRow B e size v n xs) (m : Moves S w w') (hS : ∀ k, v.ownBlock = some k → ¬ S k) : w'.ownsRow B e size v n xs := by
  refine ⟨h.1, ?_⟩
  rcases h.2 with hn | ⟨g, cap, cur, rfl, hb, hg, rest⟩
  · exact .inl hn
  · exact .inr ⟨g, cap, cur, rfl, hb, (m.block g (Array.getElem?_eq_some_iff.1 hg).1 (hS g rfl)).trans hg, rest⟩
theorem own_ne {w : World} {B : Nat} {e t : TypeId} {size n g : Nat} {v : Value} {xs : List Value} {cs : Array Value} (h : w.ownsRow B e size v n xs) (hg : Holds w g t cs) (hne : e ≠ t) : ¬ v.ownBlock = some g := by
  intro he
  rcases h.2 with ⟨rfl, _⟩ | ⟨g', cap, cur, rfl, _, hh, _⟩
  · simp [Value.ownBlock] at he
  · have : g' = g := by simpa [Value.ownBlock] using he
    subst this
    unfold Holds at hg
    rw [hh] at hg
    injection hg with hg
    injection hg with _ ht
    exact hne ht
theorem owns_lower {w : World} {B B' : Nat} {e : TypeId} {size n : Nat} {v : Value} {xs : List Value} (h : w.ownsRow B e size v n xs) (hb : B' ≤ B) : w.ownsRow B' e size v n xs := by
  refine ⟨h.1, ?_⟩
  rcases h.2 with hn | ⟨g, cap, cur, rfl, hg, rest⟩
  · exact .inl hn
  · exact .inr ⟨g, cap, cur, rfl, Nat.le_trans hb hg, rest⟩
end Go.Proofs.YtobhpclemmhpoaaGreatDoor

namespace Go.Proofs.YtobhpclemmhpoaaGreatDoor
open Go.RowKit

theorem info_entry : (Tryz.prog.info? 90).map (fun i => (i.zero, i.size, i.bytes)) = some (some (.agg #[.int .i64 0, .int .i64 0, .int .i64 0, .string ⟨#[]⟩, .string ⟨#[]⟩, .int .i64 0]), 6, 64) := by kernel_rfl
theorem bdrewN {B : Nat} {a w : World} (h : Below B a w) (n : Nat) : Below B a (w.drewN n) := ⟨h.os, h.tape, h.output, h.size, h.block⟩
def Ent.value (e : Ent) : Value := .agg #[.int .i64 e.sh.kind, .int .i64 e.sh.a, .int .i64 e.sh.b, .string e.sh.s, .string (packB e.sh.args), .int .i64 e.size]

set_option maxRecDepth 100000 in
theorem number_old {B A : Nat} {L : List Ent} {F : Nat → Prop} {w : World} (h : ArenaAt B A L F w) {e : Ent} (hs : e.sh.Ok L.length) {i : Nat} (hi : idx L e.sh = some i) :
    Calls Tryz.prog 71 #[.pointer (some ⟨A, 0, none⟩), e.value] w fun r w' => r = .returned (.int .i64 i) ∧ Below w.heap.size w w' := by
  obtain ⟨mb, tv, h1, h2, h3, h4, h5, h6, rfl⟩ := h
  obtain ⟨⟨kd, a, b, s, args⟩, size⟩ := e
  unfold Ent.value
  have hlk : ∀ W : World, W.heap[mb]? = w.heap[mb]? → (Instr.lookup 63 (.map (some mb)) (.agg #[.int .i64 kd, .int .i64 a, .int .i64 b, .string s, .string (packB args)]) true).run Tryz.prog W = .ok (.tuple #[.int .i64 i, .bool true]) W := fun W hW => by
    have := run_lookup h6 hs (hW.trans h3)
    simp only [hi] at this
    exact this
  have hl := fun n => hlk ((w.alloc (.cells #[.int .i64 kd, .int .i64 a, .int .i64 b, .string s, .string (packB args), .int .i64 size] 90)).drewN n) (Below.heap_alloc _ _ _ (Array.getElem?_eq_some_iff.1 h3).1)
  have c1 := h1.cell 1
  have hA := h1.lt
  clear hlk h2 h3 hi
  go_enter Tryz.func71, Tryz.ntmps71
  go_wp2
  go_quiet (fail)
  go_wp2
  go_ret
  exact ⟨rfl, bdrewN ((Below.refl _ _).alloc (Nat.le_refl _) _) _⟩

theorem own_ne_map {w : World} {B : Nat} {e : TypeId} {size n g : Nat} {v : Value} {xs : List Value} {es : Array MapEntry} {c : Nat} (h : w.ownsRow B e size v n xs) (hg : w.heap[g]? = some (.map es c)) : ¬ v.ownBlock = some g := by
  intro he
  rcases h.2 with ⟨rfl, _⟩ | ⟨g', cap, cur, rfl, _, hh, _⟩
  · simp [Value.ownBlock] at he
  · have : g' = g := by simpa [Value.ownBlock] using he
    subst this
    rw [hh] at hg
    cases hg
theorem map_ne {w : World} {g A : Nat} {t : TypeId} {cs : Array Value} {es : Array MapEntry} {c : Nat} (hg : w.heap[g]? = some (.map es c)) (h : Holds w A t cs) : g ≠ A := by
  rintro rfl
  unfold Holds at h
  rw [hg] at h
  cases h

/-- append of one term to the arena's row, as a step of a region that draws. -/
theorem step_append_ent {ops : Array Oper} {o : Oper} {a : Act} {w : World} {K : Act → World → Prop} {Q : Exit → Act → World → Prop} {E : Prop} (hgd : o.guard = none) (s x : Operand)
    (hop : o.op = .call { callee := .builtin .append, args := #[s, x], argTypes := #[64, 64] }) (B : Nat) (ao : Option Addr) (cap : Nat) (L : List Ent) (e : Ent) (hs : a.eval s = .slice ao L.length cap)
    (hown : w.ownsRow B 90 6 (.slice ao L.length cap) L.length (cellsOf L)) (X : Nat) (hx : a.eval x = .slice (some ⟨X, 0, none⟩) 1 1) (hX : Holds w X 90 e.cells.toArray)
    (hlen : L.length < 1073741824) (hB : B ≤ X)
    (h : ∀ g cap' w', w'.ownsRow B 90 6 (.slice (some ⟨g, 0, none⟩) (L.length + 1) cap') (L.length + 1) (cellsOf (L ++ [e])) → w.grownBy w' (Value.ownBlock (.slice ao L.length cap)) →
      (Value.ownBlock (.slice ao L.length cap) = some g ∨ g = w.heap.size) → K (a.put o.dst (.slice (some ⟨g, 0, none⟩) (L.length + 1) cap')) w') :
    if Region.wanted o (yielded ops a.tmps) = true then Oper.wp Tryz.prog o a w K Q else E := by
  have hw : Region.wanted o (yielded ops a.tmps) = true := by simp [Region.wanted, hgd]
  rw [if_pos hw]
  obtain ⟨i0, hi, hz0, hz1, hz2⟩ := info_parts info_entry
  obtain ⟨v', w', hrun, h2, h3, h4, h5⟩ := run_append_own_at (P := Tryz.prog) w B 64 o.type 90 i0 _ 6 64 Tryz.underlying64 hi hz0 hz1 hz2 rfl (by omega) _ _ _ hown ⟨X, 0, none⟩ 1 1 e.cells rfl
    (fun j u hu => by rw [Addr.add_lit, Nat.zero_add, hX.cell]; simpa using hu) (by intro u hu; simp [Ent.cells] at hu; rcases hu with rfl | rfl | rfl | rfl | rfl | rfl <;> rfl) (by unfold maxLen; omega) (by omega) (by have := hX.lt; omega)
  rw [← cellsOf_snoc] at h2
  obtain ⟨g, cap', rfl⟩ : ∃ g cap', v' = .slice (some ⟨g, 0, none⟩) (L.length + 1) cap' := by
    rcases h2.2 with ⟨_, h⟩ | ⟨g, cap', _, h, _⟩
    · omega
    · exact ⟨g, cap', h⟩
  unfold Oper.wp execOp
  simp only [hop, resolve, invoke, builtin, Sem.run_bind, Sem.run_pure, Result.andThen_ok, List.map_toArray, List.map_cons, List.map_nil, hs, hx, hrun]
  refine h g cap' w' h2 h3 ?_
  rcases h5 with h5 | h5
  · left; rw [← h5]; rfl
  · right; simpa [Value.ownBlock] using h5

theorem number_left {B A mb g cap' X size : Nat} {L : List Ent} {sh : Shp} {w W2 W4 : World} {tv : Value} (h4 : B ≤ A) (h5 : B ≤ mb) (h6 : Wf L) (hs : sh.Ok L.length) (hn : idx L sh = none) (hlen : L.length < 1073741824) (hsz : size ≤ 131072)
    (m2 : Moves nobody w W2) (hm6 : Moves (fun k => k = A ∨ tv.ownBlock = some k) W2 W4) (hA4 : Holds W4 A 66 #[.slice (some ⟨g, 0, none⟩) (L.length + 1) cap', .map (some mb)])
    (hown4 : W4.ownsRow B 90 6 (.slice (some ⟨g, 0, none⟩) (L.length + 1) cap') (L.length + 1) (cellsOf (L ++ [⟨sh, size⟩]))) (hM : W4.heap[mb]? = some (.map (entsOf L).toArray L.length)) (hmA : mb ≠ A)
    (hg : tv.ownBlock = some g ∨ X ≤ g) (hX : w.heap.size = X) :
    Left B A (L ++ [⟨sh, size⟩]) (fun k => k = A ∨ k = mb ∨ tv.ownBlock = some k) w { W4.drew with heap := W4.drew.heap.setIfInBounds mb (.map (entsOf (L ++ [⟨sh, size⟩])).toArray (L.length + 1)) } := by
  have hmb : mb < W4.heap.size := (Array.getElem?_eq_some_iff.1 hM).1
  have hmv : Moves (fun k => k = mb) W4 { W4.drew with heap := W4.drew.heap.setIfInBounds mb (.map (entsOf (L ++ [⟨sh, size⟩])).toArray (L.length + 1)) } := ((Moves.refl _ W4).drew).setBlock _ (.inl rfl)
  refine ⟨_, ⟨mb, .slice (some ⟨g, 0, none⟩) (L.length + 1) cap', hA4.moves hmv (fun h => hmA h.symm), ?_, ?_, h4, h5, ?_, rfl⟩, ?_, ?_⟩
  · rw [List.length_append]
    refine owns_moves hown4 hmv fun k hk => ?_
    rintro rfl
    exact own_ne_map hown4 hM hk
  · rw [List.length_append]
    show (W4.heap.setIfInBounds mb _)[mb]? = _
    simp [hmb]
  · refine ⟨fun i e he => ?_, fun e he => ?_, ?_, by simp; omega⟩
    · rw [List.getElem?_append] at he
      split at he
      · exact h6.ok i e he
      · have h0 : i - L.length = 0 := by
          have := (List.getElem?_eq_some_iff.1 he).1
          simpa using this
        rw [h0] at he
        simp at he
        subst he
        rw [show i = L.length by omega]
        exact hs
    · rcases List.mem_append.1 he with he | he
      · exact h6.size e he
      · simp at he
        subst he
        exact hsz
    · rw [List.map_append, List.nodup_append]
      refine ⟨h6.apart, by simp, ?_⟩
      intro a ha b hb
      simp at hb
      subst hb
      rintro rfl
      obtain ⟨e, he, hes⟩ := List.mem_map.1 ha
      exact idx_none hn e he hes
  · refine ((m2.mono fun _ h _ => h.elim).trans hm6 fun k hk => ?_).trans hmv fun k hk => .inl (.inr (.inl hk))
    rcases hk with hk | hk
    · exact .inl (.inl hk)
    · exact .inl (.inr (.inr hk))
  · rintro k (rfl | rfl | hk)
    · exact .inl (.inl rfl)
    · exact .inl (.inr (.inl rfl))
    · have : g = k := by simpa [Value.ownBlock] using hk
      subst this
      rcases hg with hg | hg
      · exact .inl (.inr (.inr hg))
      · exact .inr (by omega)

set_option maxRecDepth 100000 in
theorem number_new {B A : Nat} {L : List Ent} {F : Nat → Prop} {w : World} (h : ArenaAt B A L F w) {e : Ent} (hs : e.sh.Ok L.length) (hn : idx L e.sh = none) (hlen : L.length < 1073741824) (hsz : e.size ≤ 131072) :
    Calls Tryz.prog 71 #[.pointer (some ⟨A, 0, none⟩), e.value] w fun r w' => r = .returned (.int .i64 L.length) ∧ Left B A (L ++ [e]) F w w' := by
  obtain ⟨mb, tv, h1, h2, h3, h4, h5, h6, rfl⟩ := h
  obtain ⟨⟨kd, a, b, s, args⟩, size⟩ := e
  unfold Ent.value
  have hlk : ∀ W : World, W.heap[mb]? = w.heap[mb]? → (Instr.lookup 63 (.map (some mb)) (.agg #[.int .i64 kd, .int .i64 a, .int .i64 b, .string s, .string (packB args)]) true).run Tryz.prog W = .ok (.tuple #[.int .i64 0, .bool false]) W := fun W hW => by
    have := run_lookup h6 hs (hW.trans h3)
    simp only [hn] at this
    exact this
  have hl := fun n => hlk ((w.alloc (.cells #[.int .i64 kd, .int .i64 a, .int .i64 b, .string s, .string (packB args), .int .i64 size] 90)).drewN n) (Below.heap_alloc _ _ _ (Array.getElem?_eq_some_iff.1 h3).1)
  obtain ⟨ao, cap, htv⟩ : ∃ ao cap, tv = .slice ao L.length cap := by
    rcases h2.2 with ⟨e1, e2⟩ | ⟨g, cap, _, e1, _⟩
    · exact ⟨none, 0, by rw [e1, e2]⟩
    · exact ⟨_, cap, e1⟩
  subst htv
  have c1 : w.cell? ⟨A, 1, none⟩ = some (.map (some mb)) := h1.cell 1
  have hA := h1.lt
  have hcl : s.size ≤ 1048576 := by have := hs.s; simp only at this; omega
  clear hlk
  have HN := Lib.hid hn
  have hq : ∀ W : World, (binOp .eql 63 (.map (some mb)) (.map none)).run Tryz.prog W = .ok (.bool false) W := fun W => run_eql_map_nil W _ _ _ _ Tryz.underlying63
  have H1 := Lib.hid h1
  have H3 := Lib.hid h3
  clear hn h1 h3
  go_enter Tryz.func71, Tryz.ntmps71
  go_wp2
  go_quiet (fail)
  clear hl
  go_wp2_with (
    go_at_call 83
    refine (Clone_any _ _ hcl).mono ?_
    rintro r w1 ⟨rfl, hb1⟩
    have hsz1 : w.heap.size < w1.heap.size := by have := hb1.size; simp at this; omega
    have hX1 : Holds w1 w.heap.size 90 #[.int .i64 kd, .int .i64 a, .int .i64 b, .string s, .string (packB args), .int .i64 size] := (hb1.block w.heap.size (by simp)).trans (heap_alloc_new w _)
    have x3 : w1.cell? ⟨w.heap.size, 3, none⟩ = some (.string s) := hX1.cell 3
    have f3 := hX1.frozen 3
    have hm1 : Moves nobody w w1 := ((Moves.refl nobody w).alloc _).drewN _ |>.trans (Moves.ofBelow (S := nobody) hb1) fun _ h => h.elim
    have hA1 := H1.out.moves hm1 (fun h => h)
    have a0 : w1.cell? ⟨A, 0, none⟩ = some (.slice ao L.length cap) := hA1.cell 0)
  have m2 : Moves nobody w (w1.setCell ⟨w.heap.size, 3, none⟩ (.string s)) := hm1.setCell (.inr (Nat.le_refl _)) _
  have hX2 : Holds (w1.setCell ⟨w.heap.size, 3, none⟩ (.string s)) w.heap.size 90 #[.int .i64 kd, .int .i64 a, .int .i64 b, .string s, .string (packB args), .int .i64 size] := hX1.set 3 _
  have hA2 := H1.out.moves m2 (fun h => h)
  clear x3 f3 hA1 a0 hX1
  have hown2 : (w1.setCell ⟨w.heap.size, 3, none⟩ (.string s)).ownsRow B 90 6 (.slice ao L.length cap) L.length (cellsOf L) := owns_moves h2 m2 fun _ _ h => h
  have hBW : B ≤ (w1.setCell ⟨w.heap.size, 3, none⟩ (.string s)).heap.size := by have := m2.size; omega
  have hm3 := (m2.block mb (Array.getElem?_eq_some_iff.1 H3.out).1 (fun h => h)).trans H3.out
  have H30 := Lib.hid hm3
  clear hm3 H3 hm1 hb1 hsz1
  have hXlt := hX2.lt
  generalize w1.setCell ⟨w.heap.size, 3, none⟩ (.string s) = W2 at *
  generalize hXX : w.heap.size = X at *
  have HXX := Lib.hid hXX
  clear hXX
  have a0 : W2.cell? ⟨A, 0, none⟩ = some (.slice ao L.length cap) := hA2.cell 0
  have x0 : W2.cell? ⟨X, 0, none⟩ = some (.int .i64 kd) := hX2.cell 0
  have x1 : W2.cell? ⟨X, 1, none⟩ = some (.int .i64 a) := hX2.cell 1
  have x2 : W2.cell? ⟨X, 2, none⟩ = some (.int .i64 b) := hX2.cell 2
  have x3 : W2.cell? ⟨X, 3, none⟩ = some (.string s) := hX2.cell 3
  have x4 : W2.cell? ⟨X, 4, none⟩ = some (.string (packB args)) := hX2.cell 4
  have x5 : W2.cell? ⟨X, 5, none⟩ = some (.int .i64 size) := hX2.cell 5
  have hAW : A < W2.heap.size := hA2.lt
  have hrow4 := (hown2.alloc (.cells #[.int .i64 kd, .int .i64 a, .int .i64 b, .string s, .string (packB args), .int .i64 size] 90)).drew
  have hblk4 : Holds (W2.alloc (.cells #[.int .i64 kd, .int .i64 a, .int .i64 b, .string s, .string (packB args), .int .i64 size] 90)).drew W2.heap.size 90 (Ent.cells ⟨⟨kd, a, b, s, args⟩, size⟩).toArray := Holds.new W2 _ _
  have hm4 : Moves (fun k => Value.ownBlock (.slice ao L.length cap) = some k) W2 (W2.alloc (.cells #[.int .i64 kd, .int .i64 a, .int .i64 b, .string s, .string (packB args), .int .i64 size] 90)).drew := ((Moves.refl _ W2).alloc _).drew
  go_region_law (
    (refine step_append_ent rfl (.tmp 44) (.tmp 46) rfl B ao cap L ⟨⟨kd, a, b, s, args⟩, size⟩ rfl hrow4 W2.heap.size rfl hblk4 hlen hBW ?_
     intro g cap' w3 hown3 hg3 hor3
     have hgX : Value.ownBlock (.slice ao L.length cap) = some g ∨ X ≤ g := hor3.imp_right fun h => by rw [h]; simp [World.drew]; omega
     have hm5 : Moves (fun k => k = A ∨ Value.ownBlock (.slice ao L.length cap) = some k) W2 w3 := (hm4.mono fun _ h _ => .inr h).grown hg3 fun k hk => .inl (.inr hk)
     have hA3 := hA2.moves (hm4.grown hg3 fun k hk => .inl hk) (own_ne hown2 hA2 (by decide))
     have b0 : w3.cell? ⟨A, 0, none⟩ = some (.slice ao L.length cap) := hA3.cell 0
     have g0 : w3.frozen? ⟨A, 0, none⟩ = false := hA3.frozen 0))
  all_goals
    have hm6 := hm5.setCell (S := fun k => k = A ∨ Value.ownBlock (.slice ao L.length cap) = some k) (p := ⟨A, 0, none⟩) (.inl (.inl rfl)) (.slice (some ⟨g, 0, none⟩) (L.length + 1) cap')
    have hmA : mb ≠ A := map_ne H30.out hA2
    have hmo : ¬ Value.ownBlock (.slice ao L.length cap) = some mb := own_ne_map hown2 H30.out
    have hXo : ¬ Value.ownBlock (.slice ao L.length cap) = some X := fun h => by have := (h2.lt X h).2; rw [HXX.out] at this; omega
    have hA4 : Holds (w3.setCell ⟨A, 0, none⟩ (.slice (some ⟨g, 0, none⟩) (L.length + 1) cap')) A 66 #[.slice (some ⟨g, 0, none⟩) (L.length + 1) cap', .map (some mb)] := hA3.set 0 _
    have hX4 := hX2.moves hm6 (by rintro (h | h); exact absurd h (by omega); exact hXo h)
    have hown4 := owns_moves (w' := w3.setCell ⟨A, 0, none⟩ (.slice (some ⟨g, 0, none⟩) (L.length + 1) cap')) hown3 ((Moves.refl (fun k => k = A) w3).setCell (.inl rfl) _) fun k hk => by rintro rfl; exact own_ne hown3 hA3 (by decide) hk
    have hmap4 := (hm6.block mb (Array.getElem?_eq_some_iff.1 H30.out).1 (by rintro (h | h); exact hmA h; exact hmo h)).trans H30.out
    have hput := run_put h6 hs HN.out (w := (w3.setCell ⟨A, 0, none⟩ (.slice (some ⟨g, 0, none⟩) (L.length + 1) cap')).drew) hmap4 size
    clear a0 x0 x1 x2 x3 x4 x5 b0 g0 hA3 hown3 hg3 hm5 hrow4 hblk4 hm4 hX2 hA2 hown2
    generalize w3.setCell ⟨A, 0, none⟩ (.slice (some ⟨g, 0, none⟩) (L.length + 1) cap') = W4 at *
    have a1 : W4.cell? ⟨A, 1, none⟩ = some (.map (some mb)) := hA4.cell 1
    have x0 : W4.cell? ⟨X, 0, none⟩ = some (.int .i64 kd) := hX4.cell 0
    have x1 : W4.cell? ⟨X, 1, none⟩ = some (.int .i64 a) := hX4.cell 1
    have x2 : W4.cell? ⟨X, 2, none⟩ = some (.int .i64 b) := hX4.cell 2
    have x3 : W4.cell? ⟨X, 3, none⟩ = some (.string s) := hX4.cell 3
    have x4 : W4.cell? ⟨X, 4, none⟩ = some (.string (packB args)) := hX4.cell 4
    simp only [Shp.key] at hput
    have HM := Lib.hid hmap4
    clear hmap4
    go_wp2
    go_region
    all_goals
      go_wp2
      go_ret
      exact ⟨rfl, number_left h4 h5 h6 hs HN.out hlen hsz m2 hm6 hA4 hown4 HM.out hmA hgX HXX.out⟩
end Go.Proofs.YtobhpclemmhpoaaGreatDoor

namespace Go.Proofs.YtobhpclemmhpoaaGreatDoor
open Go.RowKit
theorem info_id : (Tryz.prog.info? 36).map (fun i => (i.zero, i.size, i.bytes)) = some (some (.int .i64 0), 1, 8) := by kernel_rfl

theorem join_t (t b0 b1 b2 b3 : Nat) (h : t < 4294967296) (h0 : b0 = t / 16777216) (h1 : b1 = t / 65536 % 256) (h2 : b2 = t / 256 % 256) (h3 : b3 = t % 256) :
    bits .or .i64 (bits .or .i64 (bits .or .i64 ((b0 : Int) * 16777216) ((b1 : Int) * 65536)) ((b2 : Int) * 256)) (b3 : Int) = (t : Int) ∧ b0 < 256 ∧ b1 < 256 ∧ b2 < 256 ∧ b3 < 256 := by
  obtain ⟨hf, hl⟩ := four_digits t h
  have l1 : b1 < 256 := by rw [h1]; exact Nat.mod_lt _ (by decide)
  have l2 : b2 < 256 := by rw [h2]; exact Nat.mod_lt _ (by decide)
  have l3 : b3 < 256 := by rw [h3]; exact Nat.mod_lt _ (by decide)
  have l0 : b0 < 256 := by rw [h0]; exact hl
  refine ⟨?_, l0, l1, l2, l3⟩
  rw [join_i64 b0 b1 b2 b3 l0 l1 l2 l3, h0, h1, h2, h3, hf]

/-- A store into the first spare cell of an owned row, its length one more. -/
theorem owns_push {w : World} {B g n cap : Nat} {e : TypeId} {xs : List Value} (h : w.ownsRow B e 1 (.slice (some ⟨g, 0, none⟩) n cap) n xs) (hn : n < cap) (u : Value) :
    (w.setCell ⟨g, n, none⟩ u).ownsRow B e 1 (.slice (some ⟨g, 0, none⟩) (n + 1) cap) (n + 1) (xs ++ [u]) := by
  obtain ⟨hl, h⟩ := h
  rcases h with ⟨h, _⟩ | ⟨g', cap', cur, hv, hb, hg, hnc, hcm, hcs, ht⟩
  · cases h
  · injection hv with h1 h2 h3
    injection h1 with h1
    injection h1 with h1
    subst h1
    subst h3
    refine ⟨by simp [hl], .inr ⟨g, cap, cur.setIfInBounds n u, rfl, hb, ?_, by omega, hcm, by simpa using hcs, ?_⟩⟩
    · simp [World.setCell, Array.getElem?_modify, hg]
    · rw [← ht]
      have hlt : n < cur.toList.length := by rw [Array.length_toList]; omega
      simp only [Array.toList_setIfInBounds, Nat.mul_one]
      rw [List.take_succ_eq_append_getElem (by simpa using hlt), List.take_set_of_le (Nat.le_refl n)]
      simp
theorem owns_cast {w : World} {B n size : Nat} {e : TypeId} {v : Value} {xs ys : List Value} (h : w.ownsRow B e size v n xs) (hx : xs = ys) : w.ownsRow B e size v n ys := hx ▸ h
theorem owns_spare {w : World} {B g n cap : Nat} {e : TypeId} {xs : List Value} (h : w.ownsRow B e 1 (.slice (some ⟨g, 0, none⟩) n cap) n xs) (hn : n < cap) :
    ∃ old, w.cell? ⟨g, n, none⟩ = some old ∧ w.frozen? ⟨g, n, none⟩ = false := by
  obtain ⟨hl, h⟩ := h
  rcases h with ⟨h, _⟩ | ⟨g', cap', cur, hv, hb, hg, hnc, hcm, hcs, ht⟩
  · cases h
  · injection hv with h1 h2 h3
    injection h1 with h1
    injection h1 with h1
    subst h1
    subst h3
    have hh : Holds w g e cur := hg
    exact ⟨cur[n]'(by omega), by rw [hh.cell, Array.getElem?_eq_getElem (by omega)], hh.frozen n⟩

/-! ### the bytes of a packed list -/
theorem packB_get (l : List Nat) (i : Nat) (h : i < (packB l).size) : (packB l)[i] = (packL l)[i]'(by rw [packL_length]; rw [packB_size] at h; exact h) := by
  simp [packB, ByteArray.getElem_eq_getElem_data]
theorem packB_tail (t : Nat) (l : List Nat) : (packB (t :: l)).extract 4 (packB (t :: l)).size = packB l := by
  have h : (packB (t :: l)).size = 4 + (packL l).length := by rw [packB_size, packL_length]; simp; omega
  rw [h]
  apply ByteArray.ext
  apply Array.ext'
  have e : (packB (t :: l)).data.toList = pack4 t ++ packL l := by simp [packB, packL]
  rw [ByteArray.data_extract, Array.toList_extract, e]
  simp [List.extract, pack4, packB]
theorem packB_drop (l : List Nat) (k : Nat) (h : k < l.length) : packB (l.drop k) = packB (l[k] :: l.drop (k + 1)) := by rw [List.drop_eq_getElem_cons h]

set_option maxRecDepth 100000 in
theorem unpack_any (l : List Nat) (w : World) (hl : l.length ≤ 65536) (ht : ∀ t ∈ l, t < 4294967296) :
    Calls Tryz.prog 40 #[.string (packB l)] w fun e w' => e = .returned (.slice (some ⟨w.heap.size, 0, none⟩) l.length l.length) ∧
      w'.ownsRow w.heap.size 36 1 (.slice (some ⟨w.heap.size, 0, none⟩) l.length l.length) l.length (l.map fun t => .int .i64 (t : Nat)) ∧ Below w.heap.size w w' := by
  obtain ⟨i0, hi, hz0, hz1, hz2⟩ := info_parts info_id
  have hsz := packB_size l
  have hq : (packB l).size / 4 = l.length := by omega
  obtain ⟨S, hS⟩ : ∃ S, S = packB l := ⟨_, rfl⟩
  rw [← hS] at hsz hq ⊢
  have HQ := Lib.hid hq
  have HS := Lib.hid hS
  have hS4 : S.size ≤ 262144 := by omega
  clear hsz hq hS
  go_enter Tryz.func40, Tryz.ntmps40
  go_wp2_with (at_make; refine wpList_make_own _ rfl _ _ 44 rfl w.heap.size 36 i0 _ 1 Tryz.underlying44 hi hz0 hz1 _ _ _ (S.size / 4) rfl rfl (by omega) ?b1 ?b2 ?b3 ?_)
  case b1 => rw [hz2]; omega
  case b2 => unfold maxLen; omega
  case b3 => exact Nat.le_refl _
  intro w1 hown hgrow
  rw [HQ.out] at hown ⊢
  have hbel : Below w.heap.size w w1 := (Below.refl _ _).grown hgrow (Nat.le_refl _) (by simp)
  go_wp2_with fail
  go_loopw [0, 3] (fun s v wr => ∃ k : Nat, k ≤ l.length ∧ s = .string (packB (l.drop k)) ∧ v = .slice (some ⟨w.heap.size, 0, none⟩) k l.length ∧
      wr.ownsRow w.heap.size 36 1 (.slice (some ⟨w.heap.size, 0, none⟩) k l.length) k ((l.take k).map fun t => .int .i64 (t : Nat)) ∧ Below w.heap.size w wr) (fun s _ _ => match s with | .string s => s.size | _ => 0)
  case atStart => exact ⟨0, Nat.zero_le _, by rw [HS.out]; rfl, rfl, by simpa using hown, hbel⟩
  case round =>
    clear hown hbel hgrow HS HQ hS4
    obtain ⟨k, hk, rfl, rfl, hown, hbel⟩ := hrel
    by_cases hlt : k < l.length
    · obtain ⟨t, hT⟩ : ∃ t, t = l[k] := ⟨_, rfl⟩
      have htk := ht l[k] (List.getElem_mem hlt)
      rw [← hT] at htk
      have hp := packB_drop l k hlt
      rw [← hT] at hp
      have hz := packB_size (t :: l.drop (k + 1))
      have hz2 := packB_size (l.drop (k + 1))
      have hext := packB_tail t (l.drop (k + 1))
      have hge : ∀ (j : Nat) (hj : j < 4), (packB (t :: l.drop (k + 1)))[j]'(by rw [hz]; simp; omega) = (pack4 t)[j]'hj := fun j hj => by
        rw [packB_get]
        simp only [packL, List.flatMap_cons]
        exact List.getElem_append_left hj
      have HT : Hid (l.take (k + 1) = l.take k ++ [t]) := by rw [hT]; exact List.take_succ_eq_append_getElem hlt
      simp only [List.length_cons, List.length_drop] at hz hz2
      rw [hp]
      have hsz4 : (packB (t :: l.drop (k + 1))).size = 4 * (l.length - (k + 1) + 1) := hz
      obtain ⟨S, hS⟩ : ∃ S, S = packB (t :: l.drop (k + 1)) := ⟨_, rfl⟩
      have hSz : S.size = 4 * (l.length - (k + 1) + 1) := by rw [hS]; exact hz
      have ix : ∀ (j : Nat) (hj : j < 4) (b : Nat), ((pack4 t)[j]'hj).toNat = b → ∀ W : World, (Instr.index 9 (.string S) (.int .i64 (j : Int))).run Tryz.prog W = .ok (.int .u8 b) W := fun j hj b hb W => by
        rw [run_index_string (P := Tryz.prog) W 9 S .i64 j Tryz.underlying9, dif_pos (by omega)]
        subst hS
        have := hge j hj
        simp only [Int.toNat_natCast]
        rw [this, hb]
      have x0 : ∀ W : World, (Instr.index 9 (.string S) (.int .i64 0)).run Tryz.prog W = .ok (.int .u8 (t / 16777216 : Nat)) W := ix 0 (by omega) (t / 16777216) (by simp only [pack4, List.getElem_cons_zero, UInt8.toNat_ofNat']; exact Nat.mod_eq_of_lt (four_digits t htk).2)
      have x1 : ∀ W : World, (Instr.index 9 (.string S) (.int .i64 1)).run Tryz.prog W = .ok (.int .u8 (t / 65536 % 256 : Nat)) W := ix 1 (by omega) (t / 65536 % 256) (by simp [pack4])
      have x2 : ∀ W : World, (Instr.index 9 (.string S) (.int .i64 2)).run Tryz.prog W = .ok (.int .u8 (t / 256 % 256 : Nat)) W := ix 2 (by omega) (t / 256 % 256) (by simp [pack4])
      have x3 : ∀ W : World, (Instr.index 9 (.string S) (.int .i64 3)).run Tryz.prog W = .ok (.int .u8 (t % 256 : Nat)) W := ix 3 (by omega) (t % 256) (by simp [pack4])
      obtain ⟨b0, h0⟩ : ∃ b, b = t / 16777216 := ⟨_, rfl⟩
      obtain ⟨b1, h1⟩ : ∃ b, b = t / 65536 % 256 := ⟨_, rfl⟩
      obtain ⟨b2, h2⟩ : ∃ b, b = t / 256 % 256 := ⟨_, rfl⟩
      obtain ⟨b3, h3⟩ : ∃ b, b = t % 256 := ⟨_, rfl⟩
      rw [← h0] at x0
      rw [← h1] at x1
      rw [← h2] at x2
      rw [← h3] at x3
      obtain ⟨hj, B0, B1, B2, B3⟩ := join_t t b0 b1 b2 b3 htk h0 h1 h2 h3
      have HJ := Lib.hid hj
      have HS := Lib.hid hS
      have HE : Hid (S.extract 4 S.size = packB (l.drop (k + 1))) := by rw [hS]; exact hext
      have hSge : 4 ≤ S.size := by omega
      have hSle : S.size ≤ 262144 := by omega
      have HZ := Lib.hid hSz
      rw [← hS]
      obtain ⟨old, hold, hfz⟩ := owns_spare hown hlt
      have hglt : w.heap.size < wr.heap.size := (hown.lt _ rfl).2
      clear ix hge hT hp hj h0 h1 h2 h3 hS hz hz2 hext hSz hsz4 ht
      go_wp2_with fail
      go_region
      go_wp2_with fail
      go_roundw
      case rel => exact ⟨k + 1, by omega, by rw [HE.out], rfl, owns_cast (((owns_push hown hlt _).alloc _).drew) (by rw [HT.out, List.map_append, HJ.out]; rfl), ((hbel.setCell (Nat.le_refl _) _).alloc (by simp [World.setCell]; omega) _).drew⟩
      case measure => simp [HE.out, packB_size]; have := HZ.out; omega
    · have hkl : k = l.length := by omega
      subst hkl
      rw [List.drop_length, List.take_length] at *
      clear ht hk hlt
      have hz : Hid ((packB []).size = 0) := packB_size []
      go_wp2_with fail
      go_ret
      exact ⟨rfl, hown, hbel⟩
end Go.Proofs.YtobhpclemmhpoaaGreatDoor
