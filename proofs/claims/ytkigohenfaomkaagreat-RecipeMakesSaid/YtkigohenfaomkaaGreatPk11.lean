/- Part 11 of what the statement wants. -/
import Derived.Laws.EntriesVeiled
import Derived.Test.YtkigohenfaomkaaGreatPk05
import Derived.Test.YtkigohenfaomkaaGreatPk10
namespace Go.Proofs.YtkigohenfaomkaaGreat
open Go.RowKit

set_option maxRecDepth 100000 in
theorem Encode_any {B A : Nat} {L : List Ent} {F : Nat → Prop} {w : World} (ha : ArenaAt B A L F w) (hL : Encodable L) {n : Nat} {e : Ent} (he : L[n]? = some e) (hen : (enc L n).length ≤ 200000) :
    Calls Tryz.prog 11 #[.pointer (some ⟨A, 0, none⟩), .int .i64 n] w fun r w' => r = .returned (.string (bs (enc L n))) ∧ Below w.heap.size w w' := by
  obtain ⟨i0, hi, hz0, hz1, hz2⟩ := info_parts info_u8
  have hok := ha.wf.ok n e he
  have hpos : 0 < (enc L n).length := by
    rw [enc_eq he hok.args, List.length_append]
    have := headL_pos e.sh (hL n e he).1 hok.kind
    omega
  have hz : e.size ≤ 131072 := ha.wf.size e (List.mem_of_getElem? he)
  have hv : ∀ W, Below w.heap.size w W → Calls Tryz.prog 23 #[.pointer (some ⟨A, 0, none⟩), .int .i64 n] W fun r w' => ∃ c0 c1 c2 c3 g, r = .returned (.tuple #[.agg #[.int .i64 c0, .int .i64 c1, .int .i64 c2, .string c3, .slice (some ⟨g, 0, none⟩) e.sh.args.length e.sh.args.length], .bool true]) ∧ Below W.heap.size W w' :=
    fun W hW => (View_some (ha.below hW) he).mono fun r w' ⟨g, h1, _, h3⟩ => ⟨_, _, _, _, g, h1, h3⟩
  have hsz : ∀ W, Below w.heap.size w W → Calls Tryz.prog 24 #[.pointer (some ⟨A, 0, none⟩), .int .i64 n] W fun r w' => r = .returned (.int .i64 e.size) ∧ W = w' := fun W hW => by
    have h := Size_any (ha.below hW) n
    have e1 : sizeAt L n = e.size := by simp [sizeAt, at_nat, he]
    rw [e1] at h
    exact h
  have hF := ha.lt
  have HA := Lib.hid fun (W : World) (hW : Below w.heap.size w W) => ha.below hW
  obtain ⟨sE, zE⟩ := e
  simp only at hz hv hsz
  clear hok ha
  have hb0 : Below w.heap.size w (w.alloc (.cells #[.pointer (some ⟨A, 0, none⟩)] 27)) := (Below.refl _ _).alloc (Nat.le_refl _) _
  go_enter Tryz.func11, Tryz.ntmps11
  go_wp2_with (first
    | (go_at_call 23
       refine (hv _ hb0).mono ?_
       rintro r w1 ⟨c0, c1, c2, c3, g, rfl, hb1⟩
       have hb2 : Below w.heap.size w (w1.alloc (.cells #[.int .i64 c0, .int .i64 c1, .int .i64 c2, .string c3, .slice (some ⟨g, 0, none⟩) sE.args.length sE.args.length] 59)) := (hb0.trans (hb1.mono (by simp))).alloc (Nat.le_trans hb0.size hb1.size) _
       have hH1 : Holds w1 w.heap.size 27 #[.pointer (some ⟨A, 0, none⟩)] := Holds.moves (S := nobody) (Holds.new w 27 _) (Moves.ofBelow hb1) fun h => h
       have hH2 : Holds (w1.alloc (.cells #[.int .i64 c0, .int .i64 c1, .int .i64 c2, .string c3, .slice (some ⟨g, 0, none⟩) sE.args.length sE.args.length] 59)) w.heap.size 27 #[.pointer (some ⟨A, 0, none⟩)] := Holds.moves (S := nobody) hH1 ((Moves.refl nobody w1).alloc _) fun h => h
       have hA1 := Holds.cell hH2 0)
    | (go_at_call 24
       refine (hsz _ hb2).mono ?_
       rintro r w' ⟨rfl, rfl⟩)
    | (at_make; refine wpList_make_own _ rfl _ _ 62 rfl 0 5 i0 _ 1 Tryz.underlying62 hi hz0 hz1 _ _ _ zE rfl rfl (by omega) ?b1 ?b2 ?b3 ?_))
  case b1 => rw [hz2]; omega
  case b2 => unfold maxLen; omega
  case b3 => exact Nat.zero_le _
  intro w2 hown2 hgrow2
  have hb3 : Below w.heap.size w w2 := hb2.grown hgrow2 hb2.size (by simp)
  have hH3 : Holds w2 w.heap.size 27 #[.pointer (some ⟨A, 0, none⟩)] := (hgrow2.block w.heap.size hH2.lt (by simp)).trans hH2
  have hX : w.heap.size ≤ w1.heap.size + 1 := by have := hb1.size; simp at this; omega
  have hX2 : w1.heap.size + 1 < w2.heap.size := by
    rcases hown2.2 with ⟨h, _⟩ | ⟨g0, cap, cur, h, _, h3, _⟩
    · cases h
    · injection h with h1 h2 h4
      injection h1 with h1
      injection h1 with h1
      rw [← h1] at h3
      exact (Array.getElem?_eq_some_iff.1 h3).1
  generalize w1.heap.size + 1 = X at *
  have hownX : w2.ownsRow X 5 1 (.slice (some ⟨X, 0, none⟩) 0 zE) 0 [] := by
    refine ⟨hown2.1, ?_⟩
    rcases hown2.2 with h | ⟨g0, cap, cur, h, _, h3⟩
    · exact .inl h
    · refine .inr ⟨g0, cap, cur, h, ?_, h3⟩
      injection h with h1 h2 h4
      injection h1 with h1
      injection h1 with h1
      omega
  have hE : ∀ W O, Below w2.heap.size w2 W → X ≤ O → Holds W O 62 #[.slice (some ⟨X, 0, none⟩) 0 zE] → Holds W (O + 1) 63 #[putV w.heap.size O (O + 1)] → Calls Tryz.prog 25 #[.int .i64 n, .pointer (some ⟨w.heap.size, 0, none⟩), .pointer (some ⟨O, 0, none⟩), .pointer (some ⟨O + 1, 0, none⟩)] W fun r w' => r = .returned (.tuple #[]) ∧
      ∃ v', Holds w' O 62 #[v'] ∧ w'.ownsRow X 5 1 v' (0 + (enc L n).length) ([] ++ byteCells (enc L n)) ∧ BM X O W w' := fun W O hW hXO hO hP =>
    enc1_any hL (fun k hk => Nat.lt_of_lt_of_le (hF k hk).2 hX) hXO n _ W _ 0 [] ((HA.out w2 hb3).below hW) (hH3.moves (Moves.ofBelow (S := nobody) hW) fun h => h) hP hO (owns_moves hownX (Moves.ofBelow (S := nobody) hW) fun _ _ h => h) (Nat.le_trans (Nat.le_of_lt hX2) hW.size) he (by omega)
  have hHW : w.heap.size ≤ w2.heap.size := hb3.size
  have HB := Lib.hid hb3
  clear hb3 hb2 hb1 hb0 hv hsz hgrow2 hown2 hownX hH1 hH2 hH3 hA1 he hi hz0 hz1 hz2 hF hL HA
  generalize hHH : w.heap.size = H at *
  have HH := Lib.hid hHH
  clear hHH
  go_wp2_with (
    go_at_call 25
    refine Calls.mono (hE _ _ ?q1 ?q4 ?q2 ?q5) ?q3
    case q1 => go_loud (exact ((Below.refl _ _).alloc (Nat.le_refl _) _).alloc (by simp) _)
    case q2 => go_loud (exact Holds.moves (S := nobody) (Holds.new w2 _ _) ((Moves.refl nobody _).alloc _) fun h => h)
    case q4 => exact Nat.le_of_lt hX2
    case q5 => go_loud (exact (by have := Holds.new (w2.alloc (.cells #[.slice (some ⟨X, 0, none⟩) 0 zE] 62)) 63 #[putV H w2.heap.size (w2.heap.size + 1)]; rw [World.size_alloc] at this; exact this))
    rintro r w6 ⟨rfl, v', hO6, hown6, hm6⟩
    rw [List.nil_append, Nat.zero_add] at hown6
    obtain ⟨g6, cap6, rfl⟩ : ∃ g6 cap6, v' = .slice (some ⟨g6, 0, none⟩) (enc L n).length cap6 := by
      rcases hown6.2 with ⟨_, h⟩ | ⟨g6, cap6, _, h, _⟩
      · omega
      · exact ⟨g6, cap6, h⟩
    have hcv := run_string_own hown6
    have c6 := Holds.cell hO6 0)
  go_ret
  refine ⟨rfl, ?_⟩
  rw [HH.out]
  refine HB.out.trans ((Below.mono (((Below.refl w2.heap.size w2).alloc (Nat.le_refl _) _).alloc (by simp) _) hHW).trans (Moves.below hm6 (by simp; omega) ?_))
  rintro k (rfl | ⟨h, _⟩)
  · exact hHW
  · exact Nat.le_trans hX h
end Go.Proofs.YtkigohenfaomkaaGreat

namespace Go.Proofs.YtkigohenfaomkaaGreat
open Go.RowKit

set_option maxRecDepth 100000 in
theorem View_has {p : Value} {i : Int} {w : World} (hh : ∀ W, Below w.heap.size w W → Calls Tryz.prog 29 #[p, .int .i64 i] W fun e w' => e = .returned (.bool false) ∧ W = w') :
    Calls Tryz.prog 23 #[p, .int .i64 i] w fun r w' => r = .returned (.tuple #[noNode, .bool false]) ∧ Below w.heap.size w w' := by
  have hb : Below w.heap.size w (w.alloc (.cells #[.int .i64 0, .int .i64 0, .int .i64 0, .string ⟨#[]⟩, .slice none 0 0] 59)) := (Below.refl _ _).alloc (Nat.le_refl _) _
  have hc := hh _ hb
  have hN : Holds (w.alloc (.cells #[.int .i64 0, .int .i64 0, .int .i64 0, .string ⟨#[]⟩, .slice none 0 0] 59)) w.heap.size 59 #[.int .i64 0, .int .i64 0, .int .i64 0, .string ⟨#[]⟩, .slice none 0 0] := Holds.new w _ _
  go_enter Tryz.func23, Tryz.ntmps23
  go_wp2_with (go_at_call 29; refine hc.mono ?_; rintro r w' ⟨rfl, rfl⟩)
  refine bodyPost_ret (v := .tuple #[noNode, .bool false]) ?_ rfl ⟨rfl, hb⟩
  exact run_cell_tmp rfl _ _ w.heap.size _ _ _ rfl rfl hN Tryz.underlying59 rfl (by kernel_rfl)
theorem nView_no {B A : Nat} {L : List Ent} {F : Nat → Prop} {w : World} (ha : ArenaAt B A L F w) (i : Int) (hi : i < 0 ∨ L.length ≤ i) :
    Calls Tryz.prog 23 #[.pointer (some ⟨A, 0, none⟩), .int .i64 i] w fun r w' => r = .returned (.tuple #[noNode, .bool false]) ∧ Below w.heap.size w w' :=
  View_has fun W hW => has_no (ha.below hW) i hi
set_option maxRecDepth 100000 in
theorem Encode_has {p : Option Addr} {i : Int} {w : World} (hv : ∀ W, Below w.heap.size w W → Calls Tryz.prog 23 #[.pointer p, .int .i64 i] W fun r w' => r = .returned (.tuple #[noNode, .bool false]) ∧ Below W.heap.size W w') :
    Calls Tryz.prog 11 #[.pointer p, .int .i64 i] w fun r w' => r = .returned (.string ⟨#[]⟩) ∧ Below w.heap.size w w' := by
  have hb0 : Below w.heap.size w (w.alloc (.cells #[.pointer p] 27)) := (Below.refl _ _).alloc (Nat.le_refl _) _
  have hc := hv _ hb0
  unfold noNode at hc
  clear hv
  go_enter Tryz.func11, Tryz.ntmps11
  go_wp2_with (
    go_at_call 23
    refine hc.mono ?_
    rintro r w1 ⟨rfl, hb1⟩)
  go_ret
  exact ⟨rfl, (hb0.trans (hb1.mono hb0.size)).alloc (Nat.le_trans hb0.size hb1.size) _⟩
theorem Encode_no {B A : Nat} {L : List Ent} {F : Nat → Prop} {w : World} (ha : ArenaAt B A L F w) (i : Int) (hi : i < 0 ∨ L.length ≤ i) :
    Calls Tryz.prog 11 #[.pointer (some ⟨A, 0, none⟩), .int .i64 i] w fun r w' => r = .returned (.string ⟨#[]⟩) ∧ Below w.heap.size w w' :=
  Encode_has fun W hW => nView_no (ha.below hW) i hi
end Go.Proofs.YtkigohenfaomkaaGreat

namespace Go.Proofs.YtkigohenfaomkaaGreat
open Go.RowKit

def atZ (l : List Int) (i : Int) : Int := if 0 ≤ i ∧ i < l.length then l.getD i.toNat (-1) else -1
theorem atZ_no {l : List Int} {i : Int} (h : i < 0 ∨ (l.length : Int) ≤ i) : atZ l i = -1 := if_neg (by omega)
theorem atZ_at {l : List Int} {k : Nat} (h : k < l.length) : atZ l (k : Int) = l[k] := by
  unfold atZ
  rw [if_pos (by omega)]
  simp [List.getD, h]
def givenZ (had : Int) (l : List Int) (i : Int) : Int := if atZ l i < 0 ∨ had ≤ atZ l i then -1 else atZ l i

set_option maxRecDepth 100000 in
theorem cAt_any {w : World} {v : Value} {l : List Int} (hv : IdsAt w v l) (i : Int) : Calls Tryz.prog 22 #[v, .int .i64 i] w fun r w' => r = .returned (.int .i64 (atZ l i)) ∧ w' = w := by
  obtain ⟨ao, cap, rfl, hc⟩ := hv
  by_cases h : i < 0 ∨ (l.length : Int) ≤ i
  · rw [atZ_no h]
    clear hc
    generalize l.length = n at *
    by_cases h0 : i < 0
    · have q : decide (i < 0) = true := decide_eq_true h0
      clear h
      go_enter Tryz.func22, Tryz.ntmps22
      go_wp2
      go_ret
      exact ⟨rfl, rfl⟩
    · have q : decide (i < 0) = false := decide_eq_false h0
      have q2 : decide ((n : Int) ≤ i) = true := decide_eq_true (by omega)
      clear h
      go_enter Tryz.func22, Tryz.ntmps22
      go_wp2
      go_ret
      exact ⟨rfl, rfl⟩
  · obtain ⟨k, rfl⟩ : ∃ k : Nat, i = k := ⟨i.toNat, by omega⟩
    have hk : k < l.length := by omega
    rw [atZ_at hk]
    obtain ⟨b, off, rfl, hb, hat⟩ := hc (by intro e; simp [e] at hk)
    have c0 := hat k l[k] (List.getElem?_eq_getElem hk)
    have q2 : decide (l.length ≤ k) = false := decide_eq_false (by omega)
    generalize l[k] = x at *
    clear hat h
    generalize l.length = n at *
    go_enter Tryz.func22, Tryz.ntmps22
    go_wp2
    go_ret
    exact ⟨rfl, rfl⟩

set_option maxRecDepth 100000 in
theorem cStep_any {w : World} {E : Nat} {v : Value} {rs : List Int} (hc : w.cell? ⟨E, 4, none⟩ = some v) (hv : IdsAt w v rs) (i : Int) : Calls Tryz.prog 54 #[.pointer (some ⟨E, 0, none⟩), .int .i64 i] w fun r w' => r = .returned (.int .i64 (atZ rs i)) ∧ w' = w := by
  have HA := Lib.hid (cAt_any hv i)
  obtain ⟨ao, cap, rfl, -⟩ := hv
  generalize atZ rs i = x at *
  generalize rs.length = n at *
  go_enter Tryz.func54, Tryz.ntmps54
  go_wp2_with (go_at_call 22; (with_reducible refine HA.out.mono ?_); rintro r w' ⟨rfl, hw⟩; have hw := hw.symm; subst hw)
  go_ret
  exact ⟨rfl, rfl⟩
set_option maxRecDepth 100000 in
theorem cGiven_any {w : World} {E : Nat} {had : Int} {v : Value} {l : List Int} (hc : w.cell? ⟨E, 1, none⟩ = some (.int .i64 had)) (hv : IdsAt w v l) (i : Int) : Calls Tryz.prog 53 #[.pointer (some ⟨E, 0, none⟩), v, .int .i64 i] w fun r w' => r = .returned (.int .i64 (givenZ had l i)) ∧ w' = w := by
  have HA := Lib.hid (cAt_any hv i)
  obtain ⟨ao, cap, rfl, -⟩ := hv
  unfold givenZ
  generalize atZ l i = x at *
  generalize l.length = n at *
  by_cases h0 : x < 0
  · rw [if_pos (.inl h0)]
    have q : decide (x < 0) = true := decide_eq_true h0
    go_enter Tryz.func53, Tryz.ntmps53
    go_wp2_with (go_at_call 22; (with_reducible refine HA.out.mono ?_); rintro r w' ⟨rfl, hw⟩; have hw := hw.symm; subst hw)
    go_ret
    exact ⟨rfl, rfl⟩
  · have q : decide (x < 0) = false := decide_eq_false h0
    by_cases h1 : had ≤ x
    · rw [if_pos (.inr h1)]
      have q2 : decide (had ≤ x) = true := decide_eq_true h1
      go_enter Tryz.func53, Tryz.ntmps53
      go_wp2_with (go_at_call 22; (with_reducible refine HA.out.mono ?_); rintro r w' ⟨rfl, hw⟩; have hw := hw.symm; subst hw)
      go_ret
      exact ⟨rfl, rfl⟩
    · rw [if_neg (by omega)]
      have q2 : decide (had ≤ x) = false := decide_eq_false h1
      go_enter Tryz.func53, Tryz.ntmps53
      go_wp2_with (go_at_call 22; (with_reducible refine HA.out.mono ?_); rintro r w' ⟨rfl, hw⟩; have hw := hw.symm; subst hw)
      go_ret
      exact ⟨rfl, rfl⟩
end Go.Proofs.YtkigohenfaomkaaGreat
