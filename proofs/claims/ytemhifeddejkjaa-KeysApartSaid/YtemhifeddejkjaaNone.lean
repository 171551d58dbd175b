/- The contract of Encode for any term.
View and Encode where there is no such term, and at a nil arena. -/
import Derived.Test.YtemhifeddejkjaaEnc1
import Derived.Laws.EntriesVeiled
namespace Go.Proofs.Ytemhifeddejkjaa
open Go.RowKit

set_option maxRecDepth 100000 in
theorem Encode_any {B A : Nat} {L : List Ent} {F : Nat → Prop} {w : World} (ha : ArenaAt B A L F w) (hL : Encodable L) {n : Nat} {e : Ent} (he : L[n]? = some e) (hen : (enc L n).length ≤ 200000) :
    Calls Try.prog 11 #[.pointer (some ⟨A, 0, none⟩), .int .i64 n] w fun r w' => r = .returned (.string (bs (enc L n))) ∧ Below w.heap.size w w' := by
  obtain ⟨i0, hi, hz0, hz1, hz2⟩ := info_parts info_u8
  have hok := ha.wf.ok n e he
  have hpos : 0 < (enc L n).length := by
    rw [enc_eq he hok.args, List.length_append]
    have := headL_pos e.sh (hL n e he).1 hok.kind
    omega
  have hz : e.size ≤ 131072 := ha.wf.size e (List.mem_of_getElem? he)
  have hv : ∀ W, Below w.heap.size w W → Calls Try.prog 18 #[.pointer (some ⟨A, 0, none⟩), .int .i64 n] W fun r w' => ∃ c0 c1 c2 c3 g, r = .returned (.tuple #[.agg #[.int .i64 c0, .int .i64 c1, .int .i64 c2, .string c3, .slice (some ⟨g, 0, none⟩) e.sh.args.length e.sh.args.length], .bool true]) ∧ Below W.heap.size W w' :=
    fun W hW => (View_some (ha.below hW) he).mono fun r w' ⟨g, h1, _, h3⟩ => ⟨_, _, _, _, g, h1, h3⟩
  have hsz : ∀ W, Below w.heap.size w W → Calls Try.prog 16 #[.pointer (some ⟨A, 0, none⟩), .int .i64 n] W fun r w' => r = .returned (.int .i64 e.size) ∧ W = w' := fun W hW => by
    have h := Size_any (ha.below hW) n
    have e1 : sizeAt L n = e.size := by simp [sizeAt, at_nat, he]
    rw [e1] at h
    exact h
  have hF := ha.lt
  have HA := Lib.hid fun (W : World) (hW : Below w.heap.size w W) => ha.below hW
  obtain ⟨sE, zE⟩ := e
  simp only at hz hv hsz
  clear hok ha
  have hb0 : Below w.heap.size w (w.alloc (.cells #[.pointer (some ⟨A, 0, none⟩)] 26)) := (Below.refl _ _).alloc (Nat.le_refl _) _
  go_enter Try.func11, Try.ntmps11
  go_wp2_with (first
    | (go_at_call 18
       refine (hv _ hb0).mono ?_
       rintro r w1 ⟨c0, c1, c2, c3, g, rfl, hb1⟩
       have hb2 : Below w.heap.size w (w1.alloc (.cells #[.int .i64 c0, .int .i64 c1, .int .i64 c2, .string c3, .slice (some ⟨g, 0, none⟩) sE.args.length sE.args.length] 52)) := (hb0.trans (hb1.mono (by simp))).alloc (Nat.le_trans hb0.size hb1.size) _
       have hH1 : Holds w1 w.heap.size 26 #[.pointer (some ⟨A, 0, none⟩)] := Holds.moves (S := nobody) (Holds.new w 26 _) (Moves.ofBelow hb1) fun h => h
       have hH2 : Holds (w1.alloc (.cells #[.int .i64 c0, .int .i64 c1, .int .i64 c2, .string c3, .slice (some ⟨g, 0, none⟩) sE.args.length sE.args.length] 52)) w.heap.size 26 #[.pointer (some ⟨A, 0, none⟩)] := Holds.moves (S := nobody) hH1 ((Moves.refl nobody w1).alloc _) fun h => h
       have hA1 := Holds.cell hH2 0)
    | (go_at_call 16
       refine (hsz _ hb2).mono ?_
       rintro r w' ⟨rfl, rfl⟩)
    | (at_make; refine wpList_make_own _ rfl _ _ 62 rfl 0 5 i0 _ 1 Try.underlying62 hi hz0 hz1 _ _ _ zE rfl rfl (by omega) ?b1 ?b2 ?b3 ?_))
  case b1 => rw [hz2]; omega
  case b2 => unfold maxLen; omega
  case b3 => exact Nat.zero_le _
  intro w2 hown2 hgrow2
  have hb3 : Below w.heap.size w w2 := hb2.grown hgrow2 hb2.size (by simp)
  have hH3 : Holds w2 w.heap.size 26 #[.pointer (some ⟨A, 0, none⟩)] := (hgrow2.block w.heap.size hH2.lt (by simp)).trans hH2
  have hX : w.heap.size ≤ w1.heap.size + 1 := by have := hb1.size; simp at this; omega
  have hX2 : w1.heap.size + 1 < w2.heap.size := by
    rcases hown2.2 with ⟨h, _⟩ | ⟨g0, cap, cur, h, _, h3, _⟩
    · cases h
    · injection h with h1 h2 h4
      injection h1 with h1
      injection h1 with h1
      rw [← h1] at h3
      exact (Array.getElem?_eq_some_iff.1 h3).1
  generalize w1.heap.size + 1 = X at *
  have hownX : w2.ownsRow X 5 1 (.slice (some ⟨X, 0, none⟩) 0 zE) 0 [] := by
    refine ⟨hown2.1, ?_⟩
    rcases hown2.2 with h | ⟨g0, cap, cur, h, _, h3⟩
    · exact .inl h
    · refine .inr ⟨g0, cap, cur, h, ?_, h3⟩
      injection h with h1 h2 h4
      injection h1 with h1
      injection h1 with h1
      omega
  have hE : ∀ W O, Below w2.heap.size w2 W → X ≤ O → Holds W O 62 #[.slice (some ⟨X, 0, none⟩) 0 zE] → Holds W (O + 1) 63 #[putV w.heap.size O (O + 1)] → Calls Try.prog 22 #[.int .i64 n, .pointer (some ⟨w.heap.size, 0, none⟩), .pointer (some ⟨O, 0, none⟩), .pointer (some ⟨O + 1, 0, none⟩)] W fun r w' => r = .returned (.tuple #[]) ∧
      ∃ v', Holds w' O 62 #[v'] ∧ w'.ownsRow X 5 1 v' (0 + (enc L n).length) ([] ++ byteCells (enc L n)) ∧ BM X O W w' := fun W O hW hXO hO hP =>
    enc1_any hL (fun k hk => Nat.lt_of_lt_of_le (hF k hk).2 hX) hXO n _ W _ 0 [] ((HA.out w2 hb3).below hW) (hH3.moves (Moves.ofBelow (S := nobody) hW) fun h => h) hP hO (owns_moves hownX (Moves.ofBelow (S := nobody) hW) fun _ _ h => h) (Nat.le_trans (Nat.le_of_lt hX2) hW.size) he (by omega)
  have hHW : w.heap.size ≤ w2.heap.size := hb3.size
  have HB := Lib.hid hb3
  clear hb3 hb2 hb1 hb0 hv hsz hgrow2 hown2 hownX hH1 hH2 hH3 hA1 he hi hz0 hz1 hz2 hF hL HA
  generalize hHH : w.heap.size = H at *
  have HH := Lib.hid hHH
  clear hHH
  go_wp2_with (
    go_at_call 22
    refine Calls.mono (hE _ _ ?q1 ?q4 ?q2 ?q5) ?q3
    case q1 => go_loud (exact ((Below.refl _ _).alloc (Nat.le_refl _) _).alloc (by simp) _)
    case q2 => go_loud (exact Holds.moves (S := nobody) (Holds.new w2 _ _) ((Moves.refl nobody _).alloc _) fun h => h)
    case q4 => exact Nat.le_of_lt hX2
    case q5 => go_loud (exact (by have := Holds.new (w2.alloc (.cells #[.slice (some ⟨X, 0, none⟩) 0 zE] 62)) 63 #[putV H w2.heap.size (w2.heap.size + 1)]; rw [World.size_alloc] at this; exact this))
    rintro r w6 ⟨rfl, v', hO6, hown6, hm6⟩
    rw [List.nil_append, Nat.zero_add] at hown6
    obtain ⟨g6, cap6, rfl⟩ : ∃ g6 cap6, v' = .slice (some ⟨g6, 0, none⟩) (enc L n).length cap6 := by
      rcases hown6.2 with ⟨_, h⟩ | ⟨g6, cap6, _, h, _⟩
      · omega
      · exact ⟨g6, cap6, h⟩
    have hcv := run_string_own hown6
    have c6 := Holds.cell hO6 0)
  go_ret
  refine ⟨rfl, ?_⟩
  rw [HH.out]
  refine HB.out.trans ((Below.mono (((Below.refl w2.heap.size w2).alloc (Nat.le_refl _) _).alloc (by simp) _) hHW).trans (Moves.below hm6 (by simp; omega) ?_))
  rintro k (rfl | ⟨h, _⟩)
  · exact hHW
  · exact Nat.le_trans hX h
end Go.Proofs.Ytemhifeddejkjaa

namespace Go.Proofs.Ytemhifeddejkjaa
open Go.RowKit

set_option maxRecDepth 100000 in
theorem View_has {p : Value} {i : Int} {w : World} (hh : ∀ W, Below w.heap.size w W → Calls Try.prog 27 #[p, .int .i64 i] W fun e w' => e = .returned (.bool false) ∧ W = w') :
    Calls Try.prog 18 #[p, .int .i64 i] w fun r w' => r = .returned (.tuple #[noNode, .bool false]) ∧ Below w.heap.size w w' := by
  have hb : Below w.heap.size w (w.alloc (.cells #[.int .i64 0, .int .i64 0, .int .i64 0, .string ⟨#[]⟩, .slice none 0 0] 52)) := (Below.refl _ _).alloc (Nat.le_refl _) _
  have hc := hh _ hb
  have hN : Holds (w.alloc (.cells #[.int .i64 0, .int .i64 0, .int .i64 0, .string ⟨#[]⟩, .slice none 0 0] 52)) w.heap.size 52 #[.int .i64 0, .int .i64 0, .int .i64 0, .string ⟨#[]⟩, .slice none 0 0] := Holds.new w _ _
  go_enter Try.func18, Try.ntmps18
  go_wp2_with (go_at_call 27; refine hc.mono ?_; rintro r w' ⟨rfl, rfl⟩)
  refine bodyPost_ret (v := .tuple #[noNode, .bool false]) ?_ rfl ⟨rfl, hb⟩
  exact run_cell_tmp rfl _ _ w.heap.size _ _ _ rfl rfl hN Try.underlying52 rfl (by kernel_rfl)
theorem View_no {B A : Nat} {L : List Ent} {F : Nat → Prop} {w : World} (ha : ArenaAt B A L F w) (i : Int) (hi : i < 0 ∨ L.length ≤ i) :
    Calls Try.prog 18 #[.pointer (some ⟨A, 0, none⟩), .int .i64 i] w fun r w' => r = .returned (.tuple #[noNode, .bool false]) ∧ Below w.heap.size w w' :=
  View_has fun _W hW => has_no (ha.below hW) i hi
theorem View_nil (i : Int) (w : World) : Calls Try.prog 18 #[.pointer none, .int .i64 i] w fun r w' => r = .returned (.tuple #[noNode, .bool false]) ∧ Below w.heap.size w w' :=
  View_has fun W _ => has_nil i W

set_option maxRecDepth 100000 in
theorem Encode_has {p : Option Addr} {i : Int} {w : World} (hv : ∀ W, Below w.heap.size w W → Calls Try.prog 18 #[.pointer p, .int .i64 i] W fun r w' => r = .returned (.tuple #[noNode, .bool false]) ∧ Below W.heap.size W w') :
    Calls Try.prog 11 #[.pointer p, .int .i64 i] w fun r w' => r = .returned (.string ⟨#[]⟩) ∧ Below w.heap.size w w' := by
  have hb0 : Below w.heap.size w (w.alloc (.cells #[.pointer p] 26)) := (Below.refl _ _).alloc (Nat.le_refl _) _
  have hc := hv _ hb0
  unfold noNode at hc
  clear hv
  go_enter Try.func11, Try.ntmps11
  go_wp2_with (
    go_at_call 18
    refine hc.mono ?_
    rintro r w1 ⟨rfl, hb1⟩)
  go_ret
  exact ⟨rfl, (hb0.trans (hb1.mono hb0.size)).alloc (Nat.le_trans hb0.size hb1.size) _⟩
theorem Encode_no {B A : Nat} {L : List Ent} {F : Nat → Prop} {w : World} (ha : ArenaAt B A L F w) (i : Int) (hi : i < 0 ∨ L.length ≤ i) :
    Calls Try.prog 11 #[.pointer (some ⟨A, 0, none⟩), .int .i64 i] w fun r w' => r = .returned (.string ⟨#[]⟩) ∧ Below w.heap.size w w' :=
  Encode_has fun _W hW => View_no (ha.below hW) i hi
theorem Encode_nil (i : Int) (w : World) : Calls Try.prog 11 #[.pointer none, .int .i64 i] w fun r w' => r = .returned (.string ⟨#[]⟩) ∧ Below w.heap.size w w' :=
  Encode_has fun W _ => View_nil i W
end Go.Proofs.Ytemhifeddejkjaa
