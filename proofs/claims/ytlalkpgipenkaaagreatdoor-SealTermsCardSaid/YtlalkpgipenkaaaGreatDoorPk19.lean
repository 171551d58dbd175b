/- Part 19 of what the statement wants. -/
import Derived.Laws.EntriesVeiled
import Derived.Test.YtlalkpgipenkaaaGreatDoorPk02
import Derived.Test.YtlalkpgipenkaaaGreatDoorPk10
import Derived.Test.YtlalkpgipenkaaaGreatDoorPk11
import Derived.Test.YtlalkpgipenkaaaGreatDoorPk13
import Derived.Test.YtlalkpgipenkaaaGreatDoorPk18
namespace Go.Proofs.YtlalkpgipenkaaaGreatDoor
open Go.RowKit

set_option maxRecDepth 100000 in
theorem ref2Right_any (d : List UInt8) (hd : d.length ≤ 131072) (w : World) : Calls Tryz.prog 136 #[.string (bs d)] w fun e w' => e = .returned (.bool (rightD d)) ∧ Below w.heap.size w w' := by
  have hsz : (bs d).size = d.length := bs_size d
  have HP : Hid (∀ W : World, Calls Tryz.prog 77 #[.string (bs d), .int .i64 0] W fun e w' => ∃ k a b s ao m c, e = .returned (.tuple #[.agg #[.int .i64 k, .int .i64 a, .int .i64 b, .string s, .slice ao m c], .int .i64 ((parseN (d.length + 1) d 0).2.1 : Int), .bool (parseN (d.length + 1) d 0).2.2]) ∧ Below W.heap.size W w') := fun W =>
    (Parse_any d (by omega) W).mono fun e w' ⟨v, h1, ⟨ao, c, h2, _⟩, h3⟩ => by
      subst h2; subst h1
      exact ⟨_, _, _, _, _, _, _, rfl, h3⟩
  have HR : Hid (rightD d = ((parseN (d.length + 1) d 0).2.2 && decide ((parseN (d.length + 1) d 0).2.1 = d.length))) := rfl
  rw [HR.out]
  clear HR
  generalize (parseN (d.length + 1) d 0).2.2 = ok at *
  generalize (parseN (d.length + 1) d 0).2.1 = E at *
  generalize bs d = S at *
  have q0 : decide ((d.length : Int) > 131072) = false := decide_eq_false (by omega)
  have q1 : ((E : Int) == (d.length : Int)) = decide (E = d.length) := by
    by_cases h : E = d.length
    · simp [h]
    · rw [decide_eq_false h, beq_eq_false_iff_ne]; omega
  generalize d.length = n at *
  generalize decide (E = n) = b at *
  cases ok with
  | true =>
    go_enter Tryz.func136, Tryz.ntmps136
    go_wp2_with (go_at_call 77; with_reducible refine (HP.out _).mono ?_; rintro e w1 ⟨k, a, b', s, ao, m, c, rfl, b1⟩)
    go_ret
    exact ⟨by simp, b1.alloc b1.size _⟩
  | false =>
    go_enter Tryz.func136, Tryz.ntmps136
    go_wp2_with (go_at_call 77; with_reducible refine (HP.out _).mono ?_; rintro e w1 ⟨k, a, b', s, ao, m, c, rfl, b1⟩)
    go_ret
    exact ⟨by simp, b1.alloc b1.size _⟩

set_option maxRecDepth 100000 in
theorem ref2Opaque_any (d : List UInt8) (hd : d.length ≤ 131072) (w : World) : Calls Tryz.prog 104 #[.string (bs d)] w fun e w' => e = .returned (.bool (rightD d && decide (kindL d ≠ 1))) ∧ Below w.heap.size w w' := by
  have HR := Lib.hid (fun W => ref2Right_any d hd W)
  have HK := Lib.hid (fun W => refKind_any d W)
  have q1 : ((kindL d : Int) == 1) = !decide (kindL d ≠ 1) := by
    by_cases h : kindL d = 1
    · simp [h]
    · simp [h]; omega
  generalize bs d = S at *
  generalize decide (kindL d ≠ 1) = b at *
  generalize (kindL d : Int) = z at *
  generalize rightD d = r at *
  cases r with
  | true =>
    go_enter Tryz.func104, Tryz.ntmps104
    go_wp2_with (first
      | (go_at_call 136; with_reducible refine (HR.out _).mono ?_; rintro e w1 ⟨rfl, b1⟩)
      | (go_at_call 27; with_reducible refine (HK.out _).mono ?_; rintro e w2 ⟨rfl, hw⟩; have hw := hw.symm; subst hw))
    go_ret
    exact ⟨by rw [bne, q1]; simp, b1⟩
  | false =>
    go_enter Tryz.func104, Tryz.ntmps104
    go_wp2_with (go_at_call 136; with_reducible refine (HR.out _).mono ?_; rintro e w1 ⟨rfl, b1⟩)
    go_ret
    exact ⟨by simp, b1⟩
end Go.Proofs.YtlalkpgipenkaaaGreatDoor

namespace Go.Proofs.YtlalkpgipenkaaaGreatDoor
open Go.RowKit

set_option maxRecDepth 100000 in
theorem Encode_any {B A : Nat} {L : List Ent} {F : Nat → Prop} {w : World} (ha : ArenaAt B A L F w) (hL : Encodable L) {n : Nat} {e : Ent} (he : L[n]? = some e) (hen : (enc L n).length ≤ 200000) :
    Calls Tryz.prog 20 #[.pointer (some ⟨A, 0, none⟩), .int .i64 n] w fun r w' => r = .returned (.string (bs (enc L n))) ∧ Below w.heap.size w w' := by
  obtain ⟨i0, hi, hz0, hz1, hz2⟩ := info_parts info_u8
  have hok := ha.wf.ok n e he
  have hpos : 0 < (enc L n).length := by
    rw [enc_eq he hok.args, List.length_append]
    have := headL_pos e.sh (hL n e he).1 hok.kind
    omega
  have hz : e.size ≤ 131072 := ha.wf.size e (List.mem_of_getElem? he)
  have hv : ∀ W, Below w.heap.size w W → Calls Tryz.prog 24 #[.pointer (some ⟨A, 0, none⟩), .int .i64 n] W fun r w' => ∃ c0 c1 c2 c3 g, r = .returned (.tuple #[.agg #[.int .i64 c0, .int .i64 c1, .int .i64 c2, .string c3, .slice (some ⟨g, 0, none⟩) e.sh.args.length e.sh.args.length], .bool true]) ∧ Below W.heap.size W w' :=
    fun W hW => (View_some (ha.below hW) he).mono fun r w' ⟨g, h1, _, h3⟩ => ⟨_, _, _, _, g, h1, h3⟩
  have hsz : ∀ W, Below w.heap.size w W → Calls Tryz.prog 44 #[.pointer (some ⟨A, 0, none⟩), .int .i64 n] W fun r w' => r = .returned (.int .i64 e.size) ∧ W = w' := fun W hW => by
    have h := Size_any (ha.below hW) n
    have e1 : sizeAt L n = e.size := by simp [sizeAt, at_nat, he]
    rw [e1] at h
    exact h
  have hF := ha.lt
  have HA := Lib.hid fun (W : World) (hW : Below w.heap.size w W) => ha.below hW
  obtain ⟨sE, zE⟩ := e
  simp only at hz hv hsz
  clear hok ha
  have hb0 : Below w.heap.size w (w.alloc (.cells #[.pointer (some ⟨A, 0, none⟩)] 25)) := (Below.refl _ _).alloc (Nat.le_refl _) _
  go_enter Tryz.func20, Tryz.ntmps20
  go_wp2_with (first
    | (go_at_call 24
       refine (hv _ hb0).mono ?_
       rintro r w1 ⟨c0, c1, c2, c3, g, rfl, hb1⟩
       have hb2 : Below w.heap.size w (w1.alloc (.cells #[.int .i64 c0, .int .i64 c1, .int .i64 c2, .string c3, .slice (some ⟨g, 0, none⟩) sE.args.length sE.args.length] 60)) := (hb0.trans (hb1.mono (by simp))).alloc (Nat.le_trans hb0.size hb1.size) _
       have hH1 : Holds w1 w.heap.size 25 #[.pointer (some ⟨A, 0, none⟩)] := Holds.moves (S := nobody) (Holds.new w 25 _) (Moves.ofBelow hb1) fun h => h
       have hH2 : Holds (w1.alloc (.cells #[.int .i64 c0, .int .i64 c1, .int .i64 c2, .string c3, .slice (some ⟨g, 0, none⟩) sE.args.length sE.args.length] 60)) w.heap.size 25 #[.pointer (some ⟨A, 0, none⟩)] := Holds.moves (S := nobody) hH1 ((Moves.refl nobody w1).alloc _) fun h => h
       have hA1 := Holds.cell hH2 0)
    | (go_at_call 44
       refine (hsz _ hb2).mono ?_
       rintro r w' ⟨rfl, rfl⟩)
    | (at_make; refine wpList_make_own _ rfl _ _ 89 rfl 0 5 i0 _ 1 Tryz.underlying89 hi hz0 hz1 _ _ _ zE rfl rfl (by omega) ?b1 ?b2 ?b3 ?_))
  case b1 => rw [hz2]; omega
  case b2 => unfold maxLen; omega
  case b3 => exact Nat.zero_le _
  intro w2 hown2 hgrow2
  have hb3 : Below w.heap.size w w2 := hb2.grown hgrow2 hb2.size (by simp)
  have hH3 : Holds w2 w.heap.size 25 #[.pointer (some ⟨A, 0, none⟩)] := (hgrow2.block w.heap.size hH2.lt (by simp)).trans hH2
  have hX : w.heap.size ≤ w1.heap.size + 1 := by have := hb1.size; simp at this; omega
  have hX2 : w1.heap.size + 1 < w2.heap.size := by
    rcases hown2.2 with ⟨h, _⟩ | ⟨g0, cap, cur, h, _, h3, _⟩
    · cases h
    · injection h with h1 h2 h4
      injection h1 with h1
      injection h1 with h1
      rw [← h1] at h3
      exact (Array.getElem?_eq_some_iff.1 h3).1
  generalize w1.heap.size + 1 = X at *
  have hownX : w2.ownsRow X 5 1 (.slice (some ⟨X, 0, none⟩) 0 zE) 0 [] := by
    refine ⟨hown2.1, ?_⟩
    rcases hown2.2 with h | ⟨g0, cap, cur, h, _, h3⟩
    · exact .inl h
    · refine .inr ⟨g0, cap, cur, h, ?_, h3⟩
      injection h with h1 h2 h4
      injection h1 with h1
      injection h1 with h1
      omega
  have hE : ∀ W O, Below w2.heap.size w2 W → X ≤ O → Holds W O 89 #[.slice (some ⟨X, 0, none⟩) 0 zE] → Holds W (O + 1) 92 #[putV w.heap.size O (O + 1)] → Calls Tryz.prog 45 #[.int .i64 n, .pointer (some ⟨w.heap.size, 0, none⟩), .pointer (some ⟨O, 0, none⟩), .pointer (some ⟨O + 1, 0, none⟩)] W fun r w' => r = .returned (.tuple #[]) ∧
      ∃ v', Holds w' O 89 #[v'] ∧ w'.ownsRow X 5 1 v' (0 + (enc L n).length) ([] ++ byteCells (enc L n)) ∧ BM X O W w' := fun W O hW hXO hO hP =>
    enc1_any hL (fun k hk => Nat.lt_of_lt_of_le (hF k hk).2 hX) hXO n _ W _ 0 [] ((HA.out w2 hb3).below hW) (hH3.moves (Moves.ofBelow (S := nobody) hW) fun h => h) hP hO (owns_moves hownX (Moves.ofBelow (S := nobody) hW) fun _ _ h => h) (Nat.le_trans (Nat.le_of_lt hX2) hW.size) he (by omega)
  have hHW : w.heap.size ≤ w2.heap.size := hb3.size
  have HB := Lib.hid hb3
  clear hb3 hb2 hb1 hb0 hv hsz hgrow2 hown2 hownX hH1 hH2 hH3 hA1 he hi hz0 hz1 hz2 hF hL HA
  generalize hHH : w.heap.size = H at *
  have HH := Lib.hid hHH
  clear hHH
  go_wp2_with (
    go_at_call 45
    refine Calls.mono (hE _ _ ?q1 ?q4 ?q2 ?q5) ?q3
    case q1 => go_loud (exact ((Below.refl _ _).alloc (Nat.le_refl _) _).alloc (by simp) _)
    case q2 => go_loud (exact Holds.moves (S := nobody) (Holds.new w2 _ _) ((Moves.refl nobody _).alloc _) fun h => h)
    case q4 => exact Nat.le_of_lt hX2
    case q5 => go_loud (exact (by have := Holds.new (w2.alloc (.cells #[.slice (some ⟨X, 0, none⟩) 0 zE] 89)) 92 #[putV H w2.heap.size (w2.heap.size + 1)]; rw [World.size_alloc] at this; exact this))
    rintro r w6 ⟨rfl, v', hO6, hown6, hm6⟩
    rw [List.nil_append, Nat.zero_add] at hown6
    obtain ⟨g6, cap6, rfl⟩ : ∃ g6 cap6, v' = .slice (some ⟨g6, 0, none⟩) (enc L n).length cap6 := by
      rcases hown6.2 with ⟨_, h⟩ | ⟨g6, cap6, _, h, _⟩
      · omega
      · exact ⟨g6, cap6, h⟩
    have hcv := run_string_own hown6
    have c6 := Holds.cell hO6 0)
  go_ret
  refine ⟨rfl, ?_⟩
  rw [HH.out]
  refine HB.out.trans ((Below.mono (((Below.refl w2.heap.size w2).alloc (Nat.le_refl _) _).alloc (by simp) _) hHW).trans (Moves.below hm6 (by simp; omega) ?_))
  rintro k (rfl | ⟨h, _⟩)
  · exact hHW
  · exact Nat.le_trans hX h
end Go.Proofs.YtlalkpgipenkaaaGreatDoor

namespace Go.Proofs.YtlalkpgipenkaaaGreatDoor
open Go.RowKit

set_option maxRecDepth 100000 in
theorem View_has {p : Value} {i : Int} {w : World} (hh : ∀ W, Below w.heap.size w W → Calls Tryz.prog 35 #[p, .int .i64 i] W fun e w' => e = .returned (.bool false) ∧ W = w') :
    Calls Tryz.prog 24 #[p, .int .i64 i] w fun r w' => r = .returned (.tuple #[noNode, .bool false]) ∧ Below w.heap.size w w' := by
  have hb : Below w.heap.size w (w.alloc (.cells #[.int .i64 0, .int .i64 0, .int .i64 0, .string ⟨#[]⟩, .slice none 0 0] 60)) := (Below.refl _ _).alloc (Nat.le_refl _) _
  have hc := hh _ hb
  have hN : Holds (w.alloc (.cells #[.int .i64 0, .int .i64 0, .int .i64 0, .string ⟨#[]⟩, .slice none 0 0] 60)) w.heap.size 60 #[.int .i64 0, .int .i64 0, .int .i64 0, .string ⟨#[]⟩, .slice none 0 0] := Holds.new w _ _
  go_enter Tryz.func24, Tryz.ntmps24
  go_wp2_with (go_at_call 35; refine hc.mono ?_; rintro r w' ⟨rfl, rfl⟩)
  refine bodyPost_ret (v := .tuple #[noNode, .bool false]) ?_ rfl ⟨rfl, hb⟩
  exact run_cell_tmp rfl _ _ w.heap.size _ _ _ rfl rfl hN Tryz.underlying60 rfl (by kernel_rfl)
theorem nView_no {B A : Nat} {L : List Ent} {F : Nat → Prop} {w : World} (ha : ArenaAt B A L F w) (i : Int) (hi : i < 0 ∨ L.length ≤ i) :
    Calls Tryz.prog 24 #[.pointer (some ⟨A, 0, none⟩), .int .i64 i] w fun r w' => r = .returned (.tuple #[noNode, .bool false]) ∧ Below w.heap.size w w' :=
  View_has fun W hW => has_no (ha.below hW) i hi
set_option maxRecDepth 100000 in
theorem Encode_has {p : Option Addr} {i : Int} {w : World} (hv : ∀ W, Below w.heap.size w W → Calls Tryz.prog 24 #[.pointer p, .int .i64 i] W fun r w' => r = .returned (.tuple #[noNode, .bool false]) ∧ Below W.heap.size W w') :
    Calls Tryz.prog 20 #[.pointer p, .int .i64 i] w fun r w' => r = .returned (.string ⟨#[]⟩) ∧ Below w.heap.size w w' := by
  have hb0 : Below w.heap.size w (w.alloc (.cells #[.pointer p] 25)) := (Below.refl _ _).alloc (Nat.le_refl _) _
  have hc := hv _ hb0
  unfold noNode at hc
  clear hv
  go_enter Tryz.func20, Tryz.ntmps20
  go_wp2_with (
    go_at_call 24
    refine hc.mono ?_
    rintro r w1 ⟨rfl, hb1⟩)
  go_ret
  exact ⟨rfl, (hb0.trans (hb1.mono hb0.size)).alloc (Nat.le_trans hb0.size hb1.size) _⟩
theorem Encode_no {B A : Nat} {L : List Ent} {F : Nat → Prop} {w : World} (ha : ArenaAt B A L F w) (i : Int) (hi : i < 0 ∨ L.length ≤ i) :
    Calls Tryz.prog 20 #[.pointer (some ⟨A, 0, none⟩), .int .i64 i] w fun r w' => r = .returned (.string ⟨#[]⟩) ∧ Below w.heap.size w w' :=
  Encode_has fun W hW => nView_no (ha.below hW) i hi
end Go.Proofs.YtlalkpgipenkaaaGreatDoor

namespace Go.Proofs.YtlalkpgipenkaaaGreatDoor
open Go.RowKit

/-- The arena has grown by at most g terms; the term has this text. -/
structure Grown (L : List Ent) (m : Int × List Ent) (t : List UInt8) (g : Nat) : Prop where
  good : Good m.2
  pre : L <+: m.2
  more : m.2.length ≤ L.length + g
  is : TAt m.2 m.1 t
theorem Same.grown {L : List Ent} {m : Int × List Ent} {t : List UInt8} (h : Same L m t) : Grown L m t 1 := ⟨h.good, h.pre, h.more, h.is⟩
theorem Grown.mono {L : List Ent} {m : Int × List Ent} {t : List UInt8} {g g' : Nat} (h : Grown L m t g) (hg : g ≤ g') : Grown L m t g' := ⟨h.good, h.pre, by have := h.more; omega, h.is⟩

def opqL (d : List UInt8) : Bool := decide (d.length ≤ 131072) && (rightD d && decide (kindL d ≠ 1))
def ofL (s : List UInt8) : List UInt8 := if opqL s = true then s else refDataL s

/-- What is right is read as its term, in any arena. -/
theorem right_decL {L : List Ent} (hG : Good L) {d : List UInt8} (hl : L.length + 10 * d.length ≤ 1000000000) (hd : d.length ≤ 131072) (h : rightD d = true) {q : RT} (hq : Reads (d.length + 1) L d false q) :
    (decP q).2 = 0 ∧ Grown L ((decP q).1, q.2.1) d (10 * d.length) := by
  unfold rightD at h
  rw [Bool.and_eq_true, decide_eq_true_eq] at h
  obtain ⟨h1, h2⟩ := h
  have hl0 : L.length + 10 * (d.drop 0).length ≤ 1000000000 := by simpa using hl
  obtain ⟨j, L', h3, _, _⟩ := parse_pr hd (d.length + 1) 0 (parseN (d.length + 1) d 0).1 (parseN (d.length + 1) d 0).2.1 (Prod.ext rfl (Prod.ext rfl h1)) L hG hl0
  rw [h2, List.drop_zero, List.drop_length] at h3
  have r1 := read_rd (d.length + 1) L d false _ hG hl h3
  have r2 := read_rd (d.length + 1) L d false _ hG hl hq
  have t1 : TAt L' (j : Int) (readT (d.length + 1) d false).1 := r1.text
  have e1 : (([] : List UInt8), false) = (readT (d.length + 1) d false).2 := r1.rest
  have e2 : q.2.2 = ([], false) := by rw [r2.rest, ← e1]
  have hne : q.1 ≠ -1 := fun hc => by
    rcases t1 with ⟨h4, _⟩ | ⟨n, _, h5, h6⟩
    · omega
    · rcases r2.text with ⟨_, h8⟩ | ⟨m, h7, _, _⟩
      · rw [h6] at h8; exact enc_ne r1.good h5 h8
      · omega
  have hc : q.2.2.2 = false ∧ q.2.2.1 = [] ∧ q.1 ≠ -1 := ⟨by rw [e2], by rw [e2], hne⟩
  obtain ⟨m, g1, g2, g3⟩ := dec_ok hG hl hq hc
  have hd2 : decP q = (q.1, 0) := by unfold decP; rw [if_pos hc]
  refine ⟨by rw [hd2], r2.good, r2.pre, ?_, ?_⟩
  · have := r2.few
    show q.2.1.length ≤ _
    omega
  · rw [hd2]
    exact .inr ⟨m, g1, g2, g3⟩

theorem Opaque_is (s : List UInt8) (hs : s.length ≤ 131072) (w : World) : Calls Tryz.prog 101 #[.string (bs s)] w fun e w' => e = .returned (.bool (opqL s)) ∧ Below w.heap.size w w' :=
  (Opaque_any hs w).mono fun e w' ⟨q, h1, h2, h3⟩ => ⟨by rw [h2, opa_right hs h1]; unfold opqL; rw [decide_eq_true hs, Bool.true_and], h3⟩

set_option maxHeartbeats 1000000 in
set_option maxRecDepth 100000 in
theorem fdOf_any {B A : Nat} {L : List Ent} {F : Nat → Prop} {w : World} (ha : ArenaAt B A L F w) (hG : Good L) (s : List UInt8) (hs : s.length ≤ 131072) (hl : L.length + 10 * s.length ≤ 1000000000) :
    Calls Tryz.prog 41 #[.pointer (some ⟨A, 0, none⟩), .string (bs s)] w fun e w' => ∃ m, e = .returned (.int .i64 m.1) ∧ Grown L m (ofL s) (10 * s.length + 1) ∧ Left B A m.2 F w w' := by
  have hsz := bs_size s
  have HO := Lib.hid (fun W => Opaque_is s hs W)
  cases ho : opqL s with
  | false =>
    rw [ho] at HO
    have HE : Hid (ofL s = refDataL s) := by show ofL s = _; unfold ofL; rw [ho]; rfl
    have HD := Lib.hid (fun (W : World) (hb : Below w.heap.size w W) => Data_any (ha.below hb) (by omega) (bs s) (by omega))
    have HS := Lib.hid ((data_same hG (by omega) s).grown.mono (show 1 ≤ 10 * s.length + 1 by omega))
    have HL : Hid (∀ (W W' : World) (L' : List Ent), Below w.heap.size w W → Left B A L' F W W' → Left B A L' F w W') := fun W W' L' hb h => Left.after (Moves.ofBelow hb) h
    generalize bs s = S at *
    go_enter Tryz.func41, Tryz.ntmps41
    go_wp2_with (first
      | (go_at_call 101; refine (HO.out _).mono ?_; rintro e w1 ⟨rfl, b1⟩)
      | (go_at_call 15; refine (HD.out _ b1).mono ?_; rintro e w2 ⟨rfl, k2⟩))
    go_ret
    exact ⟨_, rfl, by rw [HE.out]; exact HS.out, HL.out _ _ _ b1 k2⟩
  | true =>
    rw [ho] at HO
    have HE : Hid (ofL s = s) := by show ofL s = _; unfold ofL; rw [ho]; rfl
    have hr : rightD s = true := by unfold opqL at ho; simp only [Bool.and_eq_true] at ho; exact ho.2.1
    have HD : Hid (∀ (W : World), Below w.heap.size w W → Calls Tryz.prog 102 #[.pointer (some ⟨A, 0, none⟩), .string (bs s)] W fun e w' => ∃ (i j : Int) (L' : List Ent), e = .returned (.tuple #[.int .i64 i, .int .i64 j]) ∧ Grown L (i, L') s (10 * s.length + 1) ∧ Left B A L' F w w') := fun W hb => by
      refine (Decode_any (ha.below hb) hl hs).mono ?_
      rintro e w' ⟨q, h1, rfl, h2⟩
      exact ⟨_, _, _, rfl, ((right_decL hG hl hs hr h1).2).mono (by omega), Left.after (Moves.ofBelow hb) h2⟩
    generalize bs s = S at *
    go_enter Tryz.func41, Tryz.ntmps41
    go_wp2_with (first
      | (go_at_call 101; refine (HO.out _).mono ?_; rintro e w1 ⟨rfl, b1⟩)
      | (go_at_call 102; refine (HD.out _ b1).mono ?_; rintro e w2 ⟨i, j, L', rfl, hg, k2⟩))
    go_ret
    exact ⟨(i, L'), rfl, by rw [HE.out]; exact hg, k2⟩

set_option maxRecDepth 100000 in
theorem r8Of_any (s : List UInt8) (hs : s.length ≤ 131072) (w : World) :
    Calls Tryz.prog 43 #[.string (bs s)] w fun e w' => e = .returned (.string (bs (ofL s))) ∧ Below w.heap.size w w' := by
  have HO : Hid (∀ W : World, Calls Tryz.prog 104 #[.string (bs s)] W fun e w' => e = .returned (.bool (opqL s)) ∧ Below W.heap.size W w') := fun W =>
    (ref2Opaque_any s hs W).mono fun e w' ⟨h1, h2⟩ => ⟨by rw [h1]; unfold opqL; rw [decide_eq_true hs, Bool.true_and], h2⟩
  have HD := Lib.hid (fun W => refData_any s (by omega) W)
  cases ho : opqL s with
  | false =>
    rw [ho] at HO
    have HE : Hid (ofL s = refDataL s) := by show ofL s = _; unfold ofL; rw [ho]; rfl
    rw [HE.out]
    clear HE
    generalize bs (refDataL s) = T at *
    generalize bs s = S at *
    go_enter Tryz.func43, Tryz.ntmps43
    go_wp2_with (first
      | (go_at_call 104; refine (HO.out _).mono ?_; rintro e w1 ⟨rfl, b1⟩)
      | (go_at_call 58; refine (HD.out _).mono ?_; rintro e w2 ⟨rfl, b2⟩))
    go_ret
    exact ⟨rfl, b1.trans (b2.mono b1.size)⟩
  | true =>
    rw [ho] at HO
    have HE : Hid (ofL s = s) := by show ofL s = _; unfold ofL; rw [ho]; rfl
    rw [HE.out]
    clear HE
    generalize bs s = S at *
    go_enter Tryz.func43, Tryz.ntmps43
    go_wp2_with (first
      | (go_at_call 104; refine (HO.out _).mono ?_; rintro e w1 ⟨rfl, b1⟩))
    go_ret
    exact ⟨rfl, b1⟩
end Go.Proofs.YtlalkpgipenkaaaGreatDoor

namespace Go.Proofs.YtlalkpgipenkaaaGreatDoor
open Go.RowKit

/-- The term of a unit's body, as a text, and the error. -/
def unitT (s : List UInt8) : List UInt8 × Nat := if (frBodyP s).2 ≠ 0 then ([], (frBodyP s).2) else if ofL (frBodyP s).1 = [] then ([], 2) else (ofL (frBodyP s).1, 0)

theorem frBodyP_le (s : List UInt8) : (frBodyP s).1.length ≤ s.length := by
  unfold frBodyP
  repeat' split
  all_goals simp

set_option maxRecDepth 100000 in
theorem slNext_any (n : Int) (w : World) : Calls Tryz.prog 21 #[.int .u32 n] w fun e w' => e = .returned (.int .u32 ((n + 1) % 4294967296)) ∧ w' = w := by
  go_enter Tryz.func21, Tryz.ntmps21
  go_wp2_with fail
  go_ret
  exact ⟨by simp, rfl⟩

set_option maxRecDepth 100000 in
theorem r12Term_any (s : List UInt8) (hs : s.length ≤ 131072) (w : World) :
    Calls Tryz.prog 19 #[.string (bs s)] w fun e w' => e = .returned (.tuple #[.string (bs (unitT s).1), .int .i64 ((unitT s).2 : Int)]) ∧ Below w.heap.size w w' := by
  have HB := Lib.hid (fun W => rfBody_any s (by omega) W)
  have HZ : Hid (bs ([] : List UInt8) = ⟨#[]⟩) := rfl
  have hle := frBodyP_le s
  have hT : unitT s = if (frBodyP s).2 ≠ 0 then ([], (frBodyP s).2) else if ofL (frBodyP s).1 = [] then ([], 2) else (ofL (frBodyP s).1, 0) := rfl
  generalize frBodyP s = p at *
  obtain ⟨b, e0⟩ := p
  simp only at HB hle hT
  have hb : b.length ≤ 131072 := by omega
  by_cases h0 : e0 = 0
  · subst h0
    simp only [ne_eq, not_true_eq_false, if_false] at hT
    have HO := Lib.hid (fun W => r8Of_any b hb W)
    have hsz := bs_size (ofL b)
    have hz : (bs (ofL b)).toList.isEmpty = decide (ofL b = []) := by
      by_cases h : ofL b = []
      · rw [decide_eq_true h]; exact frEmpty_yes (by rw [h]; rfl)
      · rw [decide_eq_false h]; exact frEmpty_no (fun h' => h (List.eq_nil_of_length_eq_zero h'))
    generalize ofL b = t at *
    by_cases h : t = []
    · rw [if_pos h] at hT
      rw [decide_eq_true h] at hz
      have HT := Lib.hid hT
      clear hT hle hb h hsz
      generalize bs t = T at *
      generalize bs b = S1 at *
      generalize bs s = S at *
      go_enter Tryz.func19, Tryz.ntmps19
      go_wp2_with (first
        | (go_at_call 42; refine (HB.out _).mono ?_; rintro e w1 ⟨rfl, b1⟩)
        | (go_at_call 43; refine (HO.out _).mono ?_; rintro e w2 ⟨rfl, b2⟩))
      go_ret2
      exact ⟨by rw [HT.out, HZ.out]; rfl, b1.trans (b2.mono b1.size)⟩
    · rw [if_neg h] at hT
      rw [decide_eq_false h] at hz
      have HT := Lib.hid hT
      clear hT hle hb h hsz
      have HTs : Hid (bs t = bs t) := rfl
      obtain ⟨T, hTe⟩ : ∃ T, T = bs t := ⟨_, rfl⟩
      rw [← hTe] at hz HO
      have HE := Lib.hid hTe
      clear hTe
      generalize bs b = S1 at *
      generalize bs s = S at *
      go_enter Tryz.func19, Tryz.ntmps19
      go_wp2_with (first
        | (go_at_call 42; refine (HB.out _).mono ?_; rintro e w1 ⟨rfl, b1⟩)
        | (go_at_call 43; refine (HO.out _).mono ?_; rintro e w2 ⟨rfl, b2⟩))
      go_ret2
      exact ⟨by rw [HT.out, HE.out]; rfl, b1.trans (b2.mono b1.size)⟩
  · rw [if_pos h0] at hT
    have HT := Lib.hid hT
    have q0 : ((e0 : Int) != 0) = true := by simp; omega
    clear hT hle hb h0
    generalize bs b = S1 at *
    generalize bs s = S at *
    go_enter Tryz.func19, Tryz.ntmps19
    go_wp2_with (go_at_call 42; refine (HB.out _).mono ?_; rintro e w1 ⟨rfl, b1⟩)
    go_ret2
    exact ⟨by rw [HT.out, HZ.out]; rfl, b1⟩

set_option maxHeartbeats 1000000 in
set_option maxRecDepth 100000 in
theorem slTerm_any {B A : Nat} {L : List Ent} {F : Nat → Prop} {w : World} (ha : ArenaAt B A L F w) (hG : Good L) (s : List UInt8) (hs : s.length ≤ 131072) (hl : L.length + 10 * s.length ≤ 1000000000) :
    Calls Tryz.prog 18 #[.pointer (some ⟨A, 0, none⟩), .string (bs s)] w fun e w' => ∃ m, e = .returned (.tuple #[.int .i64 m.1, .int .i64 ((unitT s).2 : Int)]) ∧ Grown L m (unitT s).1 (10 * s.length + 1) ∧ Left B A m.2 F w w' := by
  have HB := Lib.hid (fun W => frBody_any s (by omega) W)
  have hle := frBodyP_le s
  have hT : unitT s = if (frBodyP s).2 ≠ 0 then ([], (frBodyP s).2) else if ofL (frBodyP s).1 = [] then ([], 2) else (ofL (frBodyP s).1, 0) := rfl
  have HL : Hid (∀ (W W' : World) (L' : List Ent), Below w.heap.size w W → Left B A L' F W W' → Left B A L' F w W') := fun W W' L' hb h => Left.after (Moves.ofBelow hb) h
  generalize frBodyP s = p at *
  obtain ⟨b, e0⟩ := p
  simp only at HB hle hT
  have hb : b.length ≤ 131072 := by omega
  by_cases h0 : e0 = 0
  · subst h0
    simp only [ne_eq, not_true_eq_false, if_false] at hT
    have HO := Lib.hid (fun (W : World) (hB : Below w.heap.size w W) => fdOf_any (ha.below hB) hG b hb (by omega))
    have HM : Hid (∀ m, Grown L m (ofL b) (10 * b.length + 1) → Grown L m (ofL b) (10 * s.length + 1)) := fun m h => h.mono (by omega)
    have HI : Hid (∀ m : Int × List Ent, Grown L m (ofL b) (10 * b.length + 1) → (m.1 = -1 ↔ ofL b = [])) := fun m h => h.is.none_iff h.good
    generalize ofL b = t at *
    by_cases h : t = []
    · rw [if_pos h] at hT
      have HH := Lib.hid h
      have HT := Lib.hid hT
      clear hT hle hb h
      generalize bs b = S1 at *
      generalize bs s = S at *
      go_enter Tryz.func18, Tryz.ntmps18
      go_wp2_with (first
        | (go_at_call 40; refine (HB.out _).mono ?_; rintro e w1 ⟨rfl, b1⟩)
        | (go_at_call 41; refine (HO.out _ b1).mono ?_; rintro e w2 ⟨m, rfl, hg, k2⟩; obtain ⟨i, L'⟩ := m; have hi : i = -1 := (HI.out _ hg).2 HH.out; subst hi; have HG := Lib.hid (HM.out _ hg); clear hg))
      go_ret2
      exact ⟨(-1, L'), by rw [HT.out]; rfl, by rw [HT.out, ← HH.out]; exact HG.out, HL.out _ _ _ b1 k2⟩
    · rw [if_neg h] at hT
      have HH := Lib.hid h
      have HT := Lib.hid hT
      clear hT hle hb h
      generalize bs b = S1 at *
      generalize bs s = S at *
      go_enter Tryz.func18, Tryz.ntmps18
      go_wp2_with (first
        | (go_at_call 40; refine (HB.out _).mono ?_; rintro e w1 ⟨rfl, b1⟩)
        | (go_at_call 41; refine (HO.out _ b1).mono ?_; rintro e w2 ⟨m, rfl, hg, k2⟩; obtain ⟨i, L'⟩ := m; have hi : (i == -1) = false := by { have := mt (HI.out _ hg).1 HH.out; simpa using this }; have HG := Lib.hid (HM.out _ hg); clear hg))
      go_ret2
      exact ⟨(i, L'), by rw [HT.out]; rfl, by rw [HT.out]; exact HG.out, HL.out _ _ _ b1 k2⟩
  · rw [if_pos h0] at hT
    have HT := Lib.hid hT
    have q0 : ((e0 : Int) != 0) = true := by simp; omega
    have HG : Hid (Grown L (-1, L) [] (10 * s.length + 1)) := ⟨hG, List.prefix_refl _, by show L.length ≤ L.length + _; omega, .inl ⟨rfl, rfl⟩⟩
    have HK : Hid (∀ W : World, Below w.heap.size w W → Left B A L F w W) := fun W hB => Left.refl ha hB
    clear hT hle hb h0
    generalize bs b = S1 at *
    generalize bs s = S at *
    go_enter Tryz.func18, Tryz.ntmps18
    go_wp2_with (go_at_call 40; refine (HB.out _).mono ?_; rintro e w1 ⟨rfl, b1⟩)
    go_ret2
    exact ⟨(-1, L), by rw [HT.out]; rfl, by rw [HT.out]; exact HG.out, HK.out _ b1⟩
end Go.Proofs.YtlalkpgipenkaaaGreatDoor

namespace Go.Proofs.YtlalkpgipenkaaaGreatDoor
open Go.RowKit

set_option maxRecDepth 100000 in
theorem slHas_some {B A : Nat} {L : List Ent} {F : Nat → Prop} {w : World} (ha : ArenaAt B A L F w) {n : Nat} (hn : n < L.length) :
    Calls Tryz.prog 93 #[.pointer (some ⟨A, 0, none⟩), .int .i64 (n : Int)] w fun e w' => e = .returned (.bool true) ∧ Below w.heap.size w w' := by
  have HV := Lib.hid (View_some ha (List.getElem?_eq_getElem hn))
  generalize hE : L[n] = E at *
  clear hE
  simp only [nodeV] at HV
  generalize E.sh.args = as0 at *
  generalize E.sh = K at *
  go_enter Tryz.func93, Tryz.ntmps93
  go_wp2_with (go_at_call 24; (with_reducible refine HV.out.mono ?_); rintro e w1 ⟨g, rfl, -, b1⟩)
  go_ret
  exact ⟨rfl, b1.alloc b1.size _⟩

set_option maxRecDepth 100000 in
theorem slUnit_some {B A : Nat} {L : List Ent} {F : Nat → Prop} {w : World} (ha : ArenaAt B A L F w) (hG : Good L) {n : Nat} (hn : n < L.length) (hs : (enc L n).length ≤ 131072) :
    Calls Tryz.prog 94 #[.pointer (some ⟨A, 0, none⟩), .int .i64 (n : Int)] w fun e w' => e = .returned (.tuple #[.string (bs (cnt (enc L n))), .int .i64 0]) ∧ Below w.heap.size w w' := by
  have HH := Lib.hid (slHas_some ha hn)
  have HE := Lib.hid (fun (W : World) (hb : Below w.heap.size w W) => Encode_any (ha.below hb) hG.encodable (List.getElem?_eq_getElem hn) (by omega))
  have HU := Lib.hid (fun (W : World) => frUnit_any (enc L n) (by omega) W)
  have hP : frUnitP (enc L n) = (cnt (enc L n), 0) := by
    unfold frUnitP
    rw [if_neg (enc_ne hG hn), if_neg (by omega)]
  rw [hP] at HU
  clear hP hs hn hG ha
  obtain ⟨S, hS⟩ : ∃ S, S = bs (enc L n) := ⟨_, rfl⟩
  rw [← hS] at HE HU
  clear hS
  generalize bs (cnt (enc L n)) = T at *
  go_enter Tryz.func94, Tryz.ntmps94
  go_wp2_with (first
    | (go_at_call 93; (with_reducible refine HH.out.mono ?_); rintro e w1 ⟨rfl, b1⟩)
    | (go_at_call 20; (with_reducible refine (HE.out _ b1).mono ?_); rintro e w2 ⟨rfl, b2⟩)
    | (go_at_call 132; (with_reducible refine (HU.out _).mono ?_); rintro e w3 ⟨rfl, b3⟩))
  go_ret2
  exact ⟨rfl, b1.trans ((b2.trans (b3.mono b2.size)).mono b1.size)⟩
end Go.Proofs.YtlalkpgipenkaaaGreatDoor

namespace Go.Proofs.YtlalkpgipenkaaaGreatDoor
open Go.RowKit

set_option maxRecDepth 100000 in
theorem slPack1_yes {w : World} {N : Nat} {S : ByteArray} (hN : w.cell? ⟨N, 0, none⟩ = some (.string S)) (h : S.toList.isEmpty = false) :
    Calls Tryz.prog 90 #[.pointer (some ⟨N, 0, none⟩)] w fun e w' => e = .returned (.bool true) ∧ w' = w := by
  go_enter Tryz.func90, Tryz.ntmps90
  go_wp2_with fail
  go_ret
  exact ⟨rfl, rfl⟩

set_option maxRecDepth 100000 in
theorem slPack2_yes {w : World} {N : Nat} {S : ByteArray} (hN : w.cell? ⟨N, 0, none⟩ = some (.string S)) (h : S.size ≤ 32768) :
    Calls Tryz.prog 91 #[.pointer (some ⟨N, 0, none⟩)] w fun e w' => e = .returned (.bool true) ∧ w' = w := by
  have q : decide ((S.size : Int) ≤ 32768) = true := decide_eq_true (by omega)
  go_enter Tryz.func91, Tryz.ntmps91
  go_wp2_with fail
  go_ret
  exact ⟨rfl, rfl⟩

set_option maxRecDepth 100000 in
theorem slPack3_yes {B A : Nat} {L : List Ent} {F : Nat → Prop} {w : World} (ha : ArenaAt B A L F w) {n : Nat} (hn : n < L.length) {X Y : Nat}
    (hX : w.cell? ⟨X, 0, none⟩ = some (.pointer (some ⟨A, 0, none⟩))) (hY : w.cell? ⟨Y, 0, none⟩ = some (.int .i64 (n : Int))) :
    Calls Tryz.prog 92 #[.pointer (some ⟨X, 0, none⟩), .pointer (some ⟨Y, 0, none⟩)] w fun e w' => e = .returned (.bool true) ∧ Below w.heap.size w w' := by
  have HH := Lib.hid (slHas_some ha hn)
  clear ha hn
  go_enter Tryz.func92, Tryz.ntmps92
  go_wp2_with (go_at_call 93; (with_reducible refine HH.out.mono ?_); rintro e w1 ⟨rfl, b1⟩)
  go_ret
  exact ⟨rfl, b1⟩

set_option maxRecDepth 100000 in
theorem slOpen1_any {w : World} {N : Nat} {b : Bool} (hN : w.cell? ⟨N, 0, none⟩ = some (.bool b)) :
    Calls Tryz.prog 96 #[.pointer (some ⟨N, 0, none⟩)] w fun e w' => e = .returned (.bool b) ∧ w' = w := by
  go_enter Tryz.func96, Tryz.ntmps96
  go_wp2_with fail
  go_ret
  exact ⟨rfl, rfl⟩

set_option maxRecDepth 100000 in
theorem slOpen2_yes {w : World} {N : Nat} (hN : w.cell? ⟨N, 0, none⟩ = some (.int .i64 9)) :
    Calls Tryz.prog 97 #[.pointer (some ⟨N, 0, none⟩)] w fun e w' => e = .returned (.bool true) ∧ w' = w := by
  go_enter Tryz.func97, Tryz.ntmps97
  go_wp2_with fail
  go_ret
  exact ⟨rfl, rfl⟩

set_option maxRecDepth 100000 in
theorem slOpen4_yes {w : World} {N X : Nat} (hN : w.cell? ⟨N, 2, none⟩ = some (.int .i64 0)) (hX : w.cell? ⟨X, 0, none⟩ = some (.int .u32 0)) :
    Calls Tryz.prog 99 #[.pointer (some ⟨N, 0, none⟩), .pointer (some ⟨X, 0, none⟩)] w fun e w' => e = .returned (.bool true) ∧ w' = w := by
  go_enter Tryz.func99, Tryz.ntmps99
  go_wp2_with fail
  go_ret
  exact ⟨rfl, rfl⟩

set_option maxRecDepth 100000 in
theorem slOpen4_no {w : World} {N X : Nat} (hN : w.cell? ⟨N, 2, none⟩ = some (.int .i64 0)) (hX : w.cell? ⟨X, 0, none⟩ = some (.int .u32 1)) :
    Calls Tryz.prog 99 #[.pointer (some ⟨N, 0, none⟩), .pointer (some ⟨X, 0, none⟩)] w fun e w' => e = .returned (.bool false) ∧ w' = w := by
  go_enter Tryz.func99, Tryz.ntmps99
  go_wp2_with fail
  go_ret
  exact ⟨rfl, rfl⟩

set_option maxRecDepth 100000 in
theorem slOpen3_yes {w : World} {N X G : Nat} {k : Int} (hN : w.cell? ⟨N, 4, none⟩ = some (.slice (some ⟨G, 0, none⟩) 2 2)) (hG : w.cell? ⟨G, 0, none⟩ = some (.int .i64 k)) (hX : w.cell? ⟨X, 0, none⟩ = some (.int .i64 k)) :
    Calls Tryz.prog 98 #[.pointer (some ⟨N, 0, none⟩), .pointer (some ⟨X, 0, none⟩)] w fun e w' => e = .returned (.bool true) ∧ Below w.heap.size w w' := by
  have q : (k == k) = true := beq_self_eq_true _
  go_enter Tryz.func98, Tryz.ntmps98
  go_wp2_with fail
  go_quiet (fail)
  go_wp2_with fail
  go_ret
  first | exact ⟨rfl, Below.refl _ _⟩ | exact ⟨rfl, belN (Below.refl _ _) _⟩
end Go.Proofs.YtlalkpgipenkaaaGreatDoor
