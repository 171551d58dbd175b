/- The contract of Encode for data. -/
import Derived.Test.YtamgbeinmfgglaaEnc
import Derived.Laws.EntriesVeiled
namespace Go.Proofs.Ytamgbeinmfgglaa
open Go.RowKit

set_option maxRecDepth 100000 in
theorem Encode_data {B A : Nat} {L : List Ent} {F : Nat → Prop} {w : World} (ha : ArenaAt B A L F w) {n : Nat} {a b z : Nat} {s : ByteArray} (he : L[n]? = some ⟨⟨1, a, b, s, []⟩, z⟩) (hs : s.size ≤ 200000) (hz : z ≤ 131072) :
    Calls Try.prog 27 #[.pointer (some ⟨A, 0, none⟩), .int .i64 n] w fun r w' => r = .returned (.string (bs (241 :: cnt s.data.toList))) ∧ Below w.heap.size w w' := by
  obtain ⟨i0, hi, hz0, hz1, hz2⟩ := info_parts info_u8
  have hl : (241 :: cnt s.data.toList).length = 5 + s.size := by
    have : s.data.toList.length = s.size := by rw [Array.length_toList]; rfl
    simp [cnt, pack4]; omega
  have hv : ∀ W, Below w.heap.size w W → Calls Try.prog 16 #[.pointer (some ⟨A, 0, none⟩), .int .i64 n] W fun r w' => ∃ g, r = .returned (.tuple #[.agg #[.int .i64 1, .int .i64 a, .int .i64 b, .string s, .slice (some ⟨g, 0, none⟩) 0 0], .bool true]) ∧ Below W.heap.size W w' :=
    fun W hW => (View_some (ha.below hW) he).mono fun r w' ⟨g, h1, _, h3⟩ => ⟨g, h1, h3⟩
  have hsz : ∀ W, Below w.heap.size w W → Calls Try.prog 18 #[.pointer (some ⟨A, 0, none⟩), .int .i64 n] W fun r w' => r = .returned (.int .i64 z) ∧ W = w' := fun W hW => by
    have h := Size_any (ha.below hW) n
    have e : sizeAt L n = z := by simp [sizeAt, at_nat, he]
    rw [e] at h
    exact h
  have hb0 : Below w.heap.size w (w.alloc (.cells #[.pointer (some ⟨A, 0, none⟩)] 25)) := (Below.refl _ _).alloc (Nat.le_refl _) _
  go_enter Try.func27, Try.ntmps27
  go_wp2_with (first
    | (go_at_call 16
       refine (hv _ hb0).mono ?_
       rintro r w1 ⟨g, rfl, hb1⟩
       have hb2 : Below w.heap.size w (w1.alloc (.cells #[.int .i64 1, .int .i64 a, .int .i64 b, .string s, .slice (some ⟨g, 0, none⟩) 0 0] 36)) := (hb0.trans (hb1.mono (by simp))).alloc (Nat.le_trans hb0.size hb1.size) _
       have hH1 : Holds w1 w.heap.size 25 #[.pointer (some ⟨A, 0, none⟩)] := Holds.moves (S := nobody) (Holds.new w 25 _) (Moves.ofBelow hb1) fun h => h
       have hH2 : Holds (w1.alloc (.cells #[.int .i64 1, .int .i64 a, .int .i64 b, .string s, .slice (some ⟨g, 0, none⟩) 0 0] 36)) w.heap.size 25 #[.pointer (some ⟨A, 0, none⟩)] := Holds.moves (S := nobody) hH1 ((Moves.refl nobody w1).alloc _) fun h => h
       have hA1 := Holds.cell hH2 0)
    | (go_at_call 18
       refine (hsz _ hb2).mono ?_
       rintro r w' ⟨rfl, rfl⟩)
    | (at_make; refine wpList_make_own _ rfl _ _ 53 rfl 0 5 i0 _ 1 Try.underlying53 hi hz0 hz1 _ _ _ z rfl rfl (by omega) ?b1 ?b2 ?b3 ?_))
  case b1 => rw [hz2]; omega
  case b2 => unfold maxLen; omega
  case b3 => exact Nat.zero_le _
  intro w2 hown2 hgrow2
  have hb3 : Below w.heap.size w w2 := hb2.grown hgrow2 hb2.size (by simp)
  have hH3 : Holds w2 w.heap.size 25 #[.pointer (some ⟨A, 0, none⟩)] := (hgrow2.block w.heap.size hH2.lt (by simp)).trans hH2
  have hX : w.heap.size ≤ w1.heap.size + 1 := by have := hb1.size; simp at this; omega
  have hX2 : w1.heap.size + 1 < w2.heap.size := by
    rcases hown2.2 with ⟨h, _⟩ | ⟨g0, cap, cur, h, _, h3, _⟩
    · cases h
    · injection h with h1 h2 h4
      injection h1 with h1
      injection h1 with h1
      rw [← h1] at h3
      exact (Array.getElem?_eq_some_iff.1 h3).1
  generalize w1.heap.size + 1 = X at *
  have hE : ∀ W O, Below w2.heap.size w2 W → Holds W O 53 #[.slice (some ⟨X, 0, none⟩) 0 z] → Calls Try.prog 46 #[.int .i64 n, .pointer (some ⟨w.heap.size, 0, none⟩), .pointer (some ⟨O, 0, none⟩), .pointer (some ⟨O + 1, 0, none⟩)] W fun r w' => r = .returned (.tuple #[]) ∧
      ∃ v', Holds w' O 53 #[v'] ∧ w'.ownsRow 0 5 1 v' (0 + (5 + s.size)) ([] ++ byteCells (241 :: cnt s.data.toList)) ∧ Moves (fun k => k = O ∨ k = X) W w' := fun W O hW hO =>
    (enc1_data (bp := O + 1) ((ha.below hb3).below hW) he hs ((hW.cell (p := ⟨w.heap.size, 0, none⟩) hH3.lt).trans (hH3.cell 0)) hO (owns_moves hown2 (Moves.ofBelow (S := nobody) hW) fun _ _ h => h) (Nat.zero_le _)).mono fun r w' ⟨h1, v', h2, h3, h4⟩ =>
      ⟨h1, v', h2, h3, h4.mono fun k hk _ => hk.imp_right fun e => by simpa [Value.ownBlock] using e⟩
  have hHW : w.heap.size ≤ w2.heap.size := hb3.size
  have HB := Lib.hid hb3
  clear hb3 hb2 hb1 hb0 hv hsz hgrow2 hown2 hH1 hH2 hH3 hA1 ha he hi hz0 hz1 hz2
  generalize hHH : w.heap.size = H at *
  have HH := Lib.hid hHH
  clear hHH
  go_wp2_with (
    go_at_call 46
    refine Calls.mono (hE _ _ ?q1 ?q2) ?q3
    case q1 => go_loud (exact ((Below.refl _ _).alloc (Nat.le_refl _) _).alloc (by simp) _)
    case q2 => go_loud (exact Holds.moves (S := nobody) (Holds.new w2 _ _) ((Moves.refl nobody _).alloc _) fun h => h)
    rintro r w6 ⟨rfl, v', hO6, hown6, hm6⟩
    rw [List.nil_append, Nat.zero_add] at hown6
    obtain ⟨g6, cap6, rfl⟩ : ∃ g6 cap6, v' = .slice (some ⟨g6, 0, none⟩) (5 + s.size) cap6 := by
      rcases hown6.2 with ⟨_, h⟩ | ⟨g6, cap6, _, h, _⟩
      · omega
      · exact ⟨g6, cap6, h⟩
    have hcv := run_string_own hown6
    have c6 := Holds.cell hO6 0)
  go_ret
  refine ⟨rfl, ?_⟩
  rw [HH.out]
  refine HB.out.trans ((Below.mono (((Below.refl w2.heap.size w2).alloc (Nat.le_refl _) _).alloc (by simp) _) hHW).trans (hm6.below (by simp; omega) ?_))
  rintro k (rfl | rfl)
  · exact hHW
  · exact hX
end Go.Proofs.Ytamgbeinmfgglaa
