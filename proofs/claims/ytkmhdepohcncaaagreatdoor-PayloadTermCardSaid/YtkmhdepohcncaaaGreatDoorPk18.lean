/- Part 18 of what the statement wants. -/
import Derived.Laws.EntriesVeiled
import Derived.Test.YtkmhdepohcncaaaGreatDoorPk13
import Derived.Test.YtkmhdepohcncaaaGreatDoorPk15
import Derived.Test.YtkmhdepohcncaaaGreatDoorPk17
namespace Go.Proofs.YtkmhdepohcncaaaGreatDoor
open Go.RowKit

set_option maxRecDepth 100000 in
theorem Encode_data {B A : Nat} {L : List Ent} {F : Nat → Prop} {w : World} (ha : ArenaAt B A L F w) {n : Nat} {a b z : Nat} {s : ByteArray} (he : L[n]? = some ⟨⟨1, a, b, s, []⟩, z⟩) (hs : s.size ≤ 200000) (hz : z ≤ 131072) :
    Calls Tryz.prog 11 #[.pointer (some ⟨A, 0, none⟩), .int .i64 n] w fun r w' => r = .returned (.string (bs (241 :: cnt s.data.toList))) ∧ Below w.heap.size w w' := by
  obtain ⟨i0, hi, hz0, hz1, hz2⟩ := info_parts info_u8
  have hl : (241 :: cnt s.data.toList).length = 5 + s.size := by
    have : s.data.toList.length = s.size := by rw [Array.length_toList]; rfl
    simp [cnt, pack4]; omega
  have hv : ∀ W, Below w.heap.size w W → Calls Tryz.prog 28 #[.pointer (some ⟨A, 0, none⟩), .int .i64 n] W fun r w' => ∃ g, r = .returned (.tuple #[.agg #[.int .i64 1, .int .i64 a, .int .i64 b, .string s, .slice (some ⟨g, 0, none⟩) 0 0], .bool true]) ∧ Below W.heap.size W w' :=
    fun W hW => (View_some (ha.below hW) he).mono fun r w' ⟨g, h1, _, h3⟩ => ⟨g, h1, h3⟩
  have hsz : ∀ W, Below w.heap.size w W → Calls Tryz.prog 31 #[.pointer (some ⟨A, 0, none⟩), .int .i64 n] W fun r w' => r = .returned (.int .i64 z) ∧ W = w' := fun W hW => by
    have h := Size_any (ha.below hW) n
    have e : sizeAt L n = z := by simp [sizeAt, at_nat, he]
    rw [e] at h
    exact h
  have hb0 : Below w.heap.size w (w.alloc (.cells #[.pointer (some ⟨A, 0, none⟩)] 23)) := (Below.refl _ _).alloc (Nat.le_refl _) _
  go_enter Tryz.func11, Tryz.ntmps11
  go_wp2_with (first
    | (go_at_call 28
       refine (hv _ hb0).mono ?_
       rintro r w1 ⟨g, rfl, hb1⟩
       have hb2 : Below w.heap.size w (w1.alloc (.cells #[.int .i64 1, .int .i64 a, .int .i64 b, .string s, .slice (some ⟨g, 0, none⟩) 0 0] 70)) := (hb0.trans (hb1.mono (by simp))).alloc (Nat.le_trans hb0.size hb1.size) _
       have hH1 : Holds w1 w.heap.size 23 #[.pointer (some ⟨A, 0, none⟩)] := Holds.moves (S := nobody) (Holds.new w 23 _) (Moves.ofBelow hb1) fun h => h
       have hH2 : Holds (w1.alloc (.cells #[.int .i64 1, .int .i64 a, .int .i64 b, .string s, .slice (some ⟨g, 0, none⟩) 0 0] 70)) w.heap.size 23 #[.pointer (some ⟨A, 0, none⟩)] := Holds.moves (S := nobody) hH1 ((Moves.refl nobody w1).alloc _) fun h => h
       have hA1 := Holds.cell hH2 0)
    | (go_at_call 31
       refine (hsz _ hb2).mono ?_
       rintro r w' ⟨rfl, rfl⟩)
    | (at_make; refine wpList_make_own _ rfl _ _ 74 rfl 0 5 i0 _ 1 Tryz.underlying74 hi hz0 hz1 _ _ _ z rfl rfl (by omega) ?b1 ?b2 ?b3 ?_))
  case b1 => rw [hz2]; omega
  case b2 => unfold maxLen; omega
  case b3 => exact Nat.zero_le _
  intro w2 hown2 hgrow2
  have hb3 : Below w.heap.size w w2 := hb2.grown hgrow2 hb2.size (by simp)
  have hH3 : Holds w2 w.heap.size 23 #[.pointer (some ⟨A, 0, none⟩)] := (hgrow2.block w.heap.size hH2.lt (by simp)).trans hH2
  have hX : w.heap.size ≤ w1.heap.size + 1 := by have := hb1.size; simp at this; omega
  have hX2 : w1.heap.size + 1 < w2.heap.size := by
    rcases hown2.2 with ⟨h, _⟩ | ⟨g0, cap, cur, h, _, h3, _⟩
    · cases h
    · injection h with h1 h2 h4
      injection h1 with h1
      injection h1 with h1
      rw [← h1] at h3
      exact (Array.getElem?_eq_some_iff.1 h3).1
  generalize w1.heap.size + 1 = X at *
  have hE : ∀ W O, Below w2.heap.size w2 W → Holds W O 74 #[.slice (some ⟨X, 0, none⟩) 0 z] → Calls Tryz.prog 32 #[.int .i64 n, .pointer (some ⟨w.heap.size, 0, none⟩), .pointer (some ⟨O, 0, none⟩), .pointer (some ⟨O + 1, 0, none⟩)] W fun r w' => r = .returned (.tuple #[]) ∧
      ∃ v', Holds w' O 74 #[v'] ∧ w'.ownsRow 0 5 1 v' (0 + (5 + s.size)) ([] ++ byteCells (241 :: cnt s.data.toList)) ∧ Moves (fun k => k = O ∨ k = X) W w' := fun W O hW hO =>
    (enc1_data (bp := O + 1) ((ha.below hb3).below hW) he hs ((hW.cell (p := ⟨w.heap.size, 0, none⟩) hH3.lt).trans (hH3.cell 0)) hO (owns_moves hown2 (Moves.ofBelow (S := nobody) hW) fun _ _ h => h) (Nat.zero_le _)).mono fun r w' ⟨h1, v', h2, h3, h4⟩ =>
      ⟨h1, v', h2, h3, h4.mono fun k hk _ => hk.imp_right fun e => by simpa [Value.ownBlock] using e⟩
  have hHW : w.heap.size ≤ w2.heap.size := hb3.size
  have HB := Lib.hid hb3
  clear hb3 hb2 hb1 hb0 hv hsz hgrow2 hown2 hH1 hH2 hH3 hA1 ha he hi hz0 hz1 hz2
  generalize hHH : w.heap.size = H at *
  have HH := Lib.hid hHH
  clear hHH
  go_wp2_with (
    go_at_call 32
    refine Calls.mono (hE _ _ ?q1 ?q2) ?q3
    case q1 => go_loud (exact ((Below.refl _ _).alloc (Nat.le_refl _) _).alloc (by simp) _)
    case q2 => go_loud (exact Holds.moves (S := nobody) (Holds.new w2 _ _) ((Moves.refl nobody _).alloc _) fun h => h)
    rintro r w6 ⟨rfl, v', hO6, hown6, hm6⟩
    rw [List.nil_append, Nat.zero_add] at hown6
    obtain ⟨g6, cap6, rfl⟩ : ∃ g6 cap6, v' = .slice (some ⟨g6, 0, none⟩) (5 + s.size) cap6 := by
      rcases hown6.2 with ⟨_, h⟩ | ⟨g6, cap6, _, h, _⟩
      · omega
      · exact ⟨g6, cap6, h⟩
    have hcv := run_string_own hown6
    have c6 := Holds.cell hO6 0)
  go_ret
  refine ⟨rfl, ?_⟩
  rw [HH.out]
  refine HB.out.trans ((Below.mono (((Below.refl w2.heap.size w2).alloc (Nat.le_refl _) _).alloc (by simp) _) hHW).trans (hm6.below (by simp; omega) ?_))
  rintro k (rfl | rfl)
  · exact hHW
  · exact hX
end Go.Proofs.YtkmhdepohcncaaaGreatDoor

namespace Go.Proofs.YtkmhdepohcncaaaGreatDoor
open Go.RowKit

theorem Decode_long {A : Nat} (s : ByteArray) (h1 : 131072 < s.size) (h2 : s.size ≤ 1000000) (w : World) :
    Calls Tryz.prog 111 #[.pointer (some ⟨A, 0, none⟩), .string s] w fun e w' => e = .returned (.tuple #[.int .i64 (-1), .int .i64 2]) ∧ w = w' := by
  go_enter Tryz.func111, Tryz.ntmps111
  go_wp2_with fail
  go_ret2
  exact ⟨rfl, rfl⟩

theorem Opaque_long (s : ByteArray) (h1 : 131072 < s.size) (h2 : s.size ≤ 1000000) (w : World) :
    Calls Tryz.prog 110 #[.string s] w fun e w' => e = .returned (.bool false) ∧ Below w.heap.size w w' := by
  go_enter Tryz.func110, Tryz.ntmps110
  go_wp2_with (first
    | (go_at_call 8; refine (New_any _).mono ?_; rintro e w1 ⟨A, F, rfl, _, b1⟩)
    | (go_at_call 111; refine (Decode_long s h1 h2 _).mono ?_; rintro e w2 ⟨rfl, rfl⟩))
  go_ret
  exact ⟨rfl, b1⟩

theorem Decode_data {B A : Nat} {L : List Ent} {F : Nat → Prop} {w : World} {l : List UInt8} (ha : ArenaAt B A L F w) (hlen : L.length < 1073741824) (hl : 5 + l.length ≤ 131072) (hne : (dataM L (bs l)).1 ≠ -1) :
    Calls Tryz.prog 111 #[.pointer (some ⟨A, 0, none⟩), .string (bs (241 :: cnt l))] w fun e w' => e = .returned (.tuple #[.int .i64 (dataM L (bs l)).1, .int .i64 0]) ∧ Left B A (dataM L (bs l)).2 F w w' := by
  have hR : RdAt (w.alloc (.cells #[.pointer (some ⟨A, 0, none⟩), .string (bs (241 :: cnt l)), .bool false] 187)) w.heap.size A (241 :: cnt l) false := Holds.new w _ _
  have hA := ha.below ((Below.refl _ _).alloc (Nat.le_refl _) (.cells #[.pointer (some ⟨A, 0, none⟩), .string (bs (241 :: cnt l)), .bool false] 187))
  have hF : ¬ F w.heap.size := fun h => by have := (ha.lt _ h).2; omega
  have ht := rterm_data hA hR hF hlen (by omega)
  have hsz : (bs (241 :: cnt l)).size ≤ 131072 := by rw [bs_size]; simp [cnt, pack4]; omega
  clear hA hR hlen ha
  generalize dataM L (bs l) = p at *
  obtain ⟨i, L'⟩ := p
  generalize bs (241 :: cnt l) = S at *
  simp only at *
  have hb : (i == -1) = false := by simpa using hne
  go_enter Tryz.func111, Tryz.ntmps111
  go_wp2_with (
    go_at_call 141
    refine ht.mono ?_
    rintro e w1 ⟨rfl, h1, F', h2, m1, hF'⟩
    have c1 : w1.cell? ⟨w.heap.size, 1, none⟩ = some (.string ⟨#[]⟩) := Holds.cell h1 1
    have c2 : w1.cell? ⟨w.heap.size, 2, none⟩ = some (.bool false) := Holds.cell h1 2)
  go_ret2
  refine ⟨rfl, F', h2, ?_, fun k hk => (hF' k hk).imp_right fun h => by simp at h; omega⟩
  exact ((Moves.refl F w).alloc _).trans m1 fun k h => h.symm.imp_right fun e => by omega
end Go.Proofs.YtkmhdepohcncaaaGreatDoor

namespace Go.Proofs.YtkmhdepohcncaaaGreatDoor
open Go.RowKit

/-- What Decode answers, by what the reader left. -/
def decP (q : RT) : Int × Int := if q.2.2.2 = false ∧ q.2.2.1 = [] ∧ q.1 ≠ -1 then (q.1, 0) else (-1, 3)

set_option maxHeartbeats 4000000 in
set_option maxRecDepth 100000 in
theorem Decode_any {B A : Nat} {L : List Ent} {F : Nat → Prop} {w : World} {l : List UInt8} (ha : ArenaAt B A L F w) (hlen : L.length + 10 * l.length ≤ 1000000000) (hl : l.length ≤ 131072) :
    Calls Tryz.prog 111 #[.pointer (some ⟨A, 0, none⟩), .string (bs l)] w fun e w' => ∃ q : RT, Reads (l.length + 1) L l false q ∧ e = .returned (.tuple #[.int .i64 (decP q).1, .int .i64 (decP q).2]) ∧ Left B A q.2.1 F w w' := by
  have hR : RdAt (w.alloc (.cells #[.pointer (some ⟨A, 0, none⟩), .string (bs l), .bool false] 187)) w.heap.size A l false := Holds.new w _ _
  have hA := ha.below ((Below.refl _ _).alloc (Nat.le_refl _) (.cells #[.pointer (some ⟨A, 0, none⟩), .string (bs l), .bool false] 187))
  have hF : ¬ F w.heap.size := fun h => by have := (ha.lt _ h).2; omega
  have HT : Hid (Calls Tryz.prog 141 #[.pointer (some ⟨w.heap.size, 0, none⟩)] (w.alloc (.cells #[.pointer (some ⟨A, 0, none⟩), .string (bs l), .bool false] 187)) fun e w' => ∃ (t : Int) (L' : List Ent) (r' : List UInt8) (b' : Bool), Reads (l.length + 1) L l false (t, L', r', b') ∧ e = .returned (.int .i64 t) ∧ RdAt w' w.heap.size A r' b' ∧ Left B A L' F w w') := by
    refine (term_any B A w.heap.size (l.length + 1) _ L F l false hA hR hF hlen (by omega) (by omega)).mono ?_
    rintro e w' ⟨⟨t, L', r', b'⟩, h1, rfl, h2, _, _, F', h3, h4, h5⟩
    refine ⟨t, L', r', b', h1, rfl, h2, F', h3, ?_, fun k hk => (h5 k hk).imp_right fun h => by simp at h; omega⟩
    exact ((Moves.refl F w).alloc _).trans h4 fun k h => h.symm.imp_right fun e => by omega
  have hsz : (bs l).size ≤ 131072 := by rw [bs_size]; exact hl
  clear hA hR ha hF hlen hl
  have HG : Hid (bs l = bs l) := rfl
  generalize bs l = S at *
  go_enter Tryz.func111, Tryz.ntmps111
  go_upto_region 7 with (
    go_at_call 141
    refine HT.out.mono ?_
    rintro e w1 ⟨t, L', r', b', hq, rfl, h1, hl2⟩)
  have c1 : w1.cell? ⟨w.heap.size, 1, none⟩ = some (.string (bs r')) := Holds.cell h1 1
  have c2 : w1.cell? ⟨w.heap.size, 2, none⟩ = some (.bool b') := Holds.cell h1 2
  have Q := Lib.hid hq
  have HL := Lib.hid hl2
  clear hq hl2 HT HG
  cases b' with
  | true =>
    go_wp2_with fail
    go_ret2
    exact ⟨_, Q.out, by unfold decP; rw [if_neg (by simp)]; rfl, HL.out⟩
  | false =>
    cases r' with
    | nil =>
      replace c1 : w1.cell? ⟨w.heap.size, 1, none⟩ = some (.string ⟨#[]⟩) := c1
      by_cases ht : t = -1
      · subst ht
        go_wp2_with fail
        go_ret2
        exact ⟨_, Q.out, by unfold decP; rw [if_neg (by simp)]; rfl, HL.out⟩
      · have hb : (t == -1) = false := by simpa using ht
        have HT := Lib.hid ht
        clear ht
        go_wp2_with fail
        go_ret2
        exact ⟨_, Q.out, by unfold decP; rw [if_pos ⟨rfl, rfl, HT.out⟩]; rfl, HL.out⟩
    | cons x m =>
      have hz0 : (bs (x :: m)).size ≠ 0 := by rw [bs_size]; simp
      have hz : (bs (x :: m) == (⟨#[]⟩ : ByteArray)) = false := by
        have h1 : bs (x :: m) ≠ ⟨#[]⟩ := fun h => hz0 (by rw [h]; rfl)
        simpa using h1
      have hz2 : (bs (x :: m)).toList.isEmpty = false := none_no (by simp)
      clear hz0
      have HQ : Hid (decP (t, L', x :: m, false) = (-1, 3)) := by
        refine Lib.hid ?_
        unfold decP; rw [if_neg (by simp)]
      generalize bs (x :: m) = Z at *
      go_wp2_with fail
      go_ret2
      exact ⟨_, Q.out, by rw [HQ.out]; rfl, HL.out⟩

/-- What Opaque answers, by what the reader left. -/
def opaP (q : RT) : Bool := decide ((decP q).2 = 0 ∧ kindAt q.2.1 q.1 ≠ 1)

set_option maxHeartbeats 4000000 in
set_option maxRecDepth 100000 in
theorem Opaque_any {l : List UInt8} (hl : l.length ≤ 131072) (w : World) :
    Calls Tryz.prog 110 #[.string (bs l)] w fun e w' => ∃ q : RT, Reads (l.length + 1) [] l false q ∧ e = .returned (.bool (opaP q)) ∧ Below w.heap.size w w' := by
  have HD : Hid (∀ (w1 : World) (A : Nat) (F : Nat → Prop), ArenaAt w.heap.size A [] F w1 → Below w.heap.size w w1 → Calls Tryz.prog 111 #[.pointer (some ⟨A, 0, none⟩), .string (bs l)] w1 fun e w' => ∃ (t : Int) (L' : List Ent) (p : List UInt8 × Bool) (F' : Nat → Prop), Reads (l.length + 1) [] l false (t, L', p) ∧ e = .returned (.tuple #[.int .i64 (decP (t, L', p)).1, .int .i64 (decP (t, L', p)).2]) ∧ ArenaAt w.heap.size A L' F' w' ∧ Below w.heap.size w w') := fun w1 A F ha hb => by
    refine (Decode_any ha (by simp; omega) hl).mono ?_
    rintro e w' ⟨⟨t, L', p⟩, h1, rfl, F', h2, h3, h4⟩
    exact ⟨t, L', p, F', h1, rfl, h2, hb.trans (h3.below hb.size fun i h => (ha.lt i h).1)⟩
  have HN : Hid (Calls Tryz.prog 8 #[] w fun e w' => ∃ A F, e = .returned (.pointer (some ⟨A, 0, none⟩)) ∧ ArenaAt w.heap.size A [] F w' ∧ Below w.heap.size w w') := New_any w
  have HKK : Hid (∀ (W : World) (A : Nat) (L' : List Ent) (F' : Nat → Prop) (t : Int), ArenaAt w.heap.size A L' F' W → Calls Tryz.prog 16 #[.pointer (some ⟨A, 0, none⟩), .int .i64 t] W fun e w' => e = .returned (.int .i64 (kindAt L' t)) ∧ W = w') := fun W A L' F' t h => Kind_any h t
  generalize bs l = S at *
  go_enter Tryz.func110, Tryz.ntmps110
  go_upto_region 3 with (first
    | (go_at_call 8; refine HN.out.mono ?_; rintro e w1 ⟨A, F, rfl, h1, b1⟩)
    | (go_at_call 111; refine (HD.out _ _ _ h1 b1).mono ?_; rintro e w2 ⟨t, L', p, F', hq, rfl, h2, b2⟩))
  have Q := Lib.hid hq
  clear hq HD HN h1 b1
  by_cases hd : p.2 = false ∧ p.1 = [] ∧ t ≠ -1
  · have he : decP (t, L', p) = (t, 0) := by unfold decP; exact if_pos hd
    have ho : opaP (t, L', p) = !(kindAt L' t == 1) := by unfold opaP; rw [he]; by_cases hk : kindAt L' t = 1 <;> simp [hk]
    rw [he]
    have HO := Lib.hid ho
    clear he ho hd
    have hk := Lib.hid (HKK.out w2 A L' F' t h2)
    generalize kindAt L' t = kk at *
    clear h2 HKK
    go_wp2_with (go_at_call 16; with_reducible refine hk.out.mono ?_; rintro e w3 ⟨rfl, hw⟩; have hw := hw.symm; subst hw)
    go_ret
    exact ⟨_, Q.out, by rw [HO.out]; rfl, b2⟩
  · have he : decP (t, L', p) = (-1, 3) := by unfold decP; exact if_neg hd
    have ho : opaP (t, L', p) = false := by unfold opaP; rw [he]; simp
    rw [he]
    have HO := Lib.hid ho
    clear he ho hd h2 HKK
    go_wp2_with fail
    go_ret
    exact ⟨_, Q.out, by rw [HO.out]; rfl, b2⟩
end Go.Proofs.YtkmhdepohcncaaaGreatDoor
