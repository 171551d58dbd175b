/- Part 25 of what the statement wants. -/
import Derived.Test.YtjlbifpbdocahaaPk17
import Derived.Test.YtjlbifpbdocahaaPk22
import Derived.Test.YtjlbifpbdocahaaPk24
namespace Go.Proofs.Ytjlbifpbdocahaa
open Go.RowKit

/-- Rows that are no part of an arena stay as they are. -/
structure Kept (W w' : World) : Prop where
  size : W.heap.size ≤ w'.heap.size
  hold : ∀ (g : Nat) (t : TypeId) (cs : Array Value), t ≠ 79 → t ≠ 108 → Holds W g t cs → Holds w' g t cs
theorem Kept.refl (W : World) : Kept W W := ⟨Nat.le_refl _, fun _ _ _ _ _ h => h⟩
theorem Kept.trans {a b c : World} (h : Kept a b) (k : Kept b c) : Kept a c := ⟨Nat.le_trans h.size k.size, fun g t cs h1 h2 h3 => k.hold g t cs h1 h2 (h.hold g t cs h1 h2 h3)⟩
theorem Kept.ofBelow {a b : World} (h : Below a.heap.size a b) : Kept a b := ⟨h.size, fun _ _ _ _ _ h3 => (h.block _ h3.lt).trans h3⟩
theorem Kept.ofMoves {a b : World} {B A : Nat} {L : List Ent} {F : Nat → Prop} (ha : ArenaAt B A L F a) (h : Moves F a b) : Kept a b := ⟨h.size, fun _ _ _ h1 h2 h3 => h3.moves h (arena_ne ha h3 h1 h2)⟩

/-- The arena at A grew from w0 on; the numbers stand beside the texts of their terms; it has at most n terms. -/
structure Ta (B : Nat) (w0 : World) (A : Nat) (P : List (Int × List UInt8)) (n : Nat) (W : World) : Prop where
  ar : ∃ L F, ArenaAt B A L F W ∧ Good L ∧ L.length ≤ n ∧ ∀ p ∈ P, TAt L p.1 p.2
  bel : Below B w0 W
section
variable {B A n : Nat} {w0 W : World} {P : List (Int × List UInt8)}
theorem Ta.lt (h : Ta B w0 A P n W) : B < W.heap.size := by
  obtain ⟨⟨L, F, ha, _⟩, _⟩ := h
  have := ha.lt A ha.self
  omega
theorem Ta.below {W' : World} (h : Ta B w0 A P n W) (hb : Below W.heap.size W W') : Ta B w0 A P n W' := by
  have hl := h.lt
  obtain ⟨⟨L, F, ha, h1⟩, h2⟩ := h
  exact ⟨⟨L, F, ha.below hb, h1⟩, h2.trans (hb.mono (Nat.le_of_lt hl))⟩
theorem Ta.drew (h : Ta B w0 A P n W) : Ta B w0 A P n W.drew := h.below (Below.refl _ _).drew
theorem Ta.alloc (h : Ta B w0 A P n W) (o : Obj) : Ta B w0 A P n (W.alloc o) := h.below ((Below.refl _ _).alloc (Nat.le_refl _) o)
/-- A store into a row that is no part of the arena. -/
theorem Ta.set (h : Ta B w0 A P n W) {g : Nat} {t : TypeId} {cs : Array Value} (hg : Holds W g t cs) (h1 : t ≠ 79) (h2 : t ≠ 108) (hB : B ≤ g) (i : Nat) (v : Value) : Ta B w0 A P n (W.setCell ⟨g, i, none⟩ v) := by
  obtain ⟨⟨L, F, ha, h3⟩, h4⟩ := h
  have hn := arena_ne ha hg h1 h2
  exact ⟨⟨L, F, ha.moves ((Moves.refl (fun k => k = g) W).setCell (p := ⟨g, i, none⟩) (.inl rfl) v) (fun k hk e => hn (e ▸ hk)), h3⟩, h4.setCell (p := ⟨g, i, none⟩) hB v⟩
theorem Ta.mono {Q : List (Int × List UInt8)} {m : Nat} (h : Ta B w0 A P n W) (hn : n ≤ m) (hQ : ∀ p ∈ Q, p ∈ P) : Ta B w0 A Q m W := by
  obtain ⟨⟨L, F, ha, h1, h2, h3⟩, h4⟩ := h
  exact ⟨⟨L, F, ha, h1, Nat.le_trans h2 hn, fun p hp => h3 p (hQ p hp)⟩, h4⟩
theorem Ta.cons {p : Int × List UInt8} (h : Ta B w0 A P n W) (hp : p ∈ P ∨ p = (-1, [])) : Ta B w0 A (p :: P) n W := by
  obtain ⟨⟨L, F, ha, h1, h2, h3⟩, h4⟩ := h
  refine ⟨⟨L, F, ha, h1, h2, fun q hq => ?_⟩, h4⟩
  rcases List.mem_cons.1 hq with rfl | hq
  · rcases hp with hp | rfl
    · exact h3 _ hp
    · exact .inl ⟨rfl, rfl⟩
  · exact h3 q hq
theorem Ta.same (h : Ta B w0 A P n W) {i j : Int} {t u : List UInt8} (h1 : (i, t) ∈ P) (h2 : (j, u) ∈ P) : i = j ↔ t = u := by
  obtain ⟨⟨L, F, ha, hG, _, h3⟩, _⟩ := h
  exact (h3 _ h1).same hG (h3 _ h2)
theorem Ta.none (h : Ta B w0 A P n W) {i : Int} {t : List UInt8} (h1 : (i, t) ∈ P) : i = -1 ↔ t = [] := by
  obtain ⟨⟨L, F, ha, hG, _, h3⟩, _⟩ := h
  exact (h3 _ h1).none_iff hG
/-- What a text is, that stands beside a number. -/
theorem Ta.text (h : Ta B w0 A P n W) {i : Int} {t : List UInt8} (h1 : (i, t) ∈ P) : t = [] ∨ ∃ (L : List Ent) (k : Nat), Good L ∧ k < L.length ∧ t = enc L k ∧ L.length ≤ n := by
  obtain ⟨⟨L, F, ha, hG, hl, h3⟩, _⟩ := h
  rcases h3 _ h1 with ⟨_, h⟩ | ⟨k, _, h4, h5⟩
  · exact .inl h
  · exact .inr ⟨L, k, hG, h4, h5, hl⟩

/-- What a call that makes terms leaves: the number of the term with the text t, of k terms more at most. -/
abbrev TaPost (B : Nat) (w0 : World) (A : Nat) (P : List (Int × List UInt8)) (n : Nat) (W : World) (t : List UInt8) (r : Ending) (w' : World) : Prop :=
  ∃ i : Int, r = .returned (.int .i64 i) ∧ Ta B w0 A ((i, t) :: P) n w' ∧ Kept W w'
theorem Ta.makes (h : Ta B w0 A P n W) {f : FuncId} {args : Array Value} {t : List UInt8} (hc : ∀ L F, ArenaAt B A L F W → Good L → L.length ≤ n → (∀ p ∈ P, TAt L p.1 p.2) → Calls Try.prog f args W fun r w' => ∃ m, Same L m t ∧ Makes B A F W m r w') :
    Calls Try.prog f args W (TaPost B w0 A P (n + 1) W t) := by
  obtain ⟨⟨L, F, ha, hG, hl, h3⟩, h4⟩ := h
  refine (hc L F ha hG hl h3).mono fun r w' ⟨m, hs, hm⟩ => ?_
  obtain ⟨h5, F', h6, h7⟩ := hm.out ha
  have hmv : Moves F W w' := Left.moves hm.2
  have hmore := hs.more
  refine ⟨m.1, h5, ⟨⟨m.2, F', h6, hs.good, by omega, fun p hp => ?_⟩, h4.trans h7⟩, Kept.ofMoves ha hmv⟩
  rcases List.mem_cons.1 hp with rfl | hp
  · exact hs.is
  · exact (h3 p hp).pre hs.good hs.pre
theorem taKey (h : Ta B w0 A P n W) (hn : n ≤ 100000) (x : Int) : Calls Try.prog 21 #[.pointer (some ⟨A, 0, none⟩), .int .i64 x] W (TaPost B w0 A P (n + 1) W (refKeyL x)) :=
  h.makes fun L F ha hG hl _ => (Key_any ha (by omega) x).mono fun r w' hm => ⟨_, key_same hG (by omega) x, hm⟩
theorem taPub (h : Ta B w0 A P n W) (hn : n ≤ 100000) {i : Int} {t : List UInt8} (h1 : (i, t) ∈ P) : Calls Try.prog 24 #[.pointer (some ⟨A, 0, none⟩), .int .i64 i] W (TaPost B w0 A P (n + 1) W (refPubL t)) :=
  h.makes fun L F ha hG hl h3 => (Pub_any ha (by omega) i).mono fun r w' hm => ⟨_, pub_same hG (by omega) (h3 _ h1), hm⟩
theorem taHash (h : Ta B w0 A P n W) (hn : n ≤ 100000) {i : Int} {t : List UInt8} (h1 : (i, t) ∈ P) : Calls Try.prog 23 #[.pointer (some ⟨A, 0, none⟩), .int .i64 i] W (TaPost B w0 A P (n + 1) W (refHashL t)) :=
  h.makes fun L F ha hG hl h3 => (Hash_any ha (by omega) i).mono fun r w' hm => ⟨_, hash_same hG (by omega) (h3 _ h1), hm⟩
/-- What View tells of a text. -/
theorem taView (h : Ta B w0 A P n W) {i : Int} {t : List UInt8} (h1 : (i, t) ∈ P) : Calls Try.prog 31 #[.pointer (some ⟨A, 0, none⟩), .int .i64 i] W fun r w' => ∃ (a b : Nat) (s : List UInt8) (ao : Option Addr) (m c : Nat), r = .returned (.tuple #[.agg #[.int .i64 (kindL t : Int), .int .i64 a, .int .i64 b, .string (bs s), .slice ao m c], .bool (!t.isEmpty)]) ∧ (t ≠ [] → nodeOf t = ⟨kindL t, a, b, s, (nodeOf t).args⟩ ∧ m = (nodeOf t).args.length) ∧ m ≤ 65536 ∧ s.length ≤ 131072 ∧ Below W.heap.size W w' := by
  obtain ⟨⟨L, F, ha, hG, _, h3⟩, _⟩ := h
  rcases h3 _ h1 with ⟨h4, h5⟩ | ⟨k, h4, h5, h6⟩
  · simp only at h4 h5
    rw [h4, h5]
    refine (nView_no ha (-1) (.inl (by omega))).mono fun r w' ⟨h6, h7⟩ => ⟨0, 0, [], Option.none, 0, 0, ?_, fun hh => absurd rfl hh, by omega, by simp, h7⟩
    rw [h6]
    rfl
  · simp only at h4 h6
    have he : L[k]? = some L[k] := List.getElem?_eq_getElem h5
    have hok := hG.wf.ok k _ he
    have hk : kindL t = L[k].sh.kind := by rw [h6, hG.enc_eq he, kind_head (hG.sh k _ he)]
    have hne : t ≠ [] := by rw [h6]; exact enc_ne hG h5
    have hem : t.isEmpty = false := by cases t with
      | nil => exact absurd rfl hne
      | cons => rfl
    rw [h4]
    refine (View_some ha he).mono fun r w' ⟨g, h7, _, h8⟩ => ⟨L[k].sh.a, L[k].sh.b, L[k].sh.s.data.toList, some ⟨g, 0, Option.none⟩, L[k].sh.args.length, L[k].sh.args.length, ?_, fun _ => ?_, hok.many, ?_, h8⟩
    · rw [h7, hem, hk, bs_list]
      rfl
    · rw [h6, nodeOf_enc hG he, ← h6, hk]
      exact ⟨rfl, by simp [nodeSh]⟩
    · have := hok.s
      rw [s_len]
      exact this
end

/-- A new arena. -/
theorem taNew (w : World) : Calls Try.prog 8 #[] w fun e w' => ∃ A, e = .returned (.pointer (some ⟨A, 0, none⟩)) ∧ Ta w.heap.size w A [] 0 w' :=
  (New_any w).mono fun e w' ⟨A, F, h1, h2, h3⟩ => ⟨A, h1, ⟨[], F, h2, Good.nil, Nat.le_refl _, by simp⟩, h3⟩
end Go.Proofs.Ytjlbifpbdocahaa

namespace Go.Proofs.Ytjlbifpbdocahaa
open Go.RowKit

def pubL (who : Int) : List UInt8 := refPubL (refKeyL who)
/-- Whose public key a text is. -/
def ownerP (t : List UInt8) : Int × Bool := if kindL t = 4 then (((nodeOf (t.drop 1)).a : Nat), true) else (0, false)
theorem keyL_key {x : Nat} (h : x ≤ 2147483647) : refKeyL (x : Int) = 243 :: pack4 x := by
  unfold refKeyL numZ
  rw [if_pos (decide_eq_true (by omega))]
  rfl
theorem keyL_out {x : Int} (h : x < 0 ∨ 2147483647 < x) : refKeyL x = [] := by
  unfold refKeyL numZ
  rw [if_neg (by rw [decide_eq_true_iff]; omega)]
theorem pubL_pub {x : Nat} (h : x ≤ 2147483647) : pubL (x : Int) = 244 :: 243 :: pack4 x := by
  unfold pubL
  rw [keyL_key h]
  rfl
theorem pubL_out {x : Int} (h : x < 0 ∨ 2147483647 < x) : pubL x = [] := by
  unfold pubL
  rw [keyL_out h]
  rfl
theorem kind_pos {L : List Ent} {sh : Shp} (h : GoodSh L sh) : 1 ≤ sh.kind := by cases h <;> simp
theorem kind_enc0 {L : List Ent} (hG : Good L) {k : Nat} (hk : k < L.length) : kindL (enc L k) = L[k].sh.kind ∧ 1 ≤ L[k].sh.kind := by
  have he : L[k]? = some L[k] := List.getElem?_eq_getElem hk
  exact ⟨by rw [hG.enc_eq he, kind_head (hG.sh k _ he)], kind_pos (hG.sh k _ he)⟩
theorem sh4 {L : List Ent} {sh : Shp} (h : GoodSh L sh) (hk : sh.kind = 4) : ∃ m, sh = ⟨4, 0, 0, noStr, [m]⟩ ∧ kindN L m = 3 := by
  cases h <;> simp at hk
  exact ⟨_, rfl, by assumption⟩
theorem sh3 {L : List Ent} {sh : Shp} (h : GoodSh L sh) (hk : sh.kind = 3) : ∃ a, a ≤ 2147483647 ∧ sh = ⟨3, a, 0, noStr, []⟩ := by
  cases h <;> simp at hk
  exact ⟨_, by assumption, rfl⟩
/-- A public key's text, and the terms it is made of. -/
theorem pub_is {L : List Ent} (hG : Good L) {k : Nat} (hk : k < L.length) (h4 : kindL (enc L k) = 4) : ∃ (x m : Nat) (e : Ent), x ≤ 2147483647 ∧ enc L k = pubL (x : Int) ∧ ownerP (enc L k) = ((x : Int), true) ∧ L[k].sh = ⟨4, 0, 0, noStr, [m]⟩ ∧ L[m]? = some e ∧ e.sh = ⟨3, x, 0, noStr, []⟩ := by
  have he : L[k]? = some L[k] := List.getElem?_eq_getElem hk
  obtain ⟨m, hm, hm3⟩ := sh4 (hG.sh k _ he) (by rw [← (kind_enc0 hG hk).1]; exact h4)
  have hml := kindN_lt (L := L) (t := m) (by omega)
  have hme : L[m]? = some L[m] := List.getElem?_eq_getElem hml
  have hk3 : L[m].sh.kind = 3 := by
    unfold kindN at hm3
    rw [hme] at hm3
    exact hm3
  obtain ⟨x, hx, hsh⟩ := sh3 (hG.sh m _ hme) hk3
  have e1 : enc L m = 243 :: pack4 x := by
    rw [hG.enc_eq hme, hsh]
    rfl
  have e2 : enc L k = 244 :: enc L m := by
    rw [hG.enc_eq he, hm]
    simp [headL]
  refine ⟨x, m, _, hx, by rw [e2, e1, pubL_pub hx], ?_, hm, hme, hsh⟩
  unfold ownerP
  rw [if_pos h4, e2]
  show (((nodeOf (enc L m)).a : Int), true) = _
  rw [nodeOf_enc hG hme, hsh]
  rfl
section
variable {B A n : Nat} {w0 W : World} {P : List (Int × List UInt8)}
end
end Go.Proofs.Ytjlbifpbdocahaa

namespace Go.Proofs.Ytjlbifpbdocahaa
open Go.RowKit

section
variable {B A n : Nat} {w0 W : World} {P : List (Int × List UInt8)}
set_option maxHeartbeats 1000000 in
set_option maxRecDepth 100000 in
theorem snOwner_any (h : Ta B w0 A P n W) {i : Int} {t : List UInt8} (hi : (i, t) ∈ P) : Calls Try.prog 49 #[.pointer (some ⟨A, 0, none⟩), .int .i64 i] W fun e w' => e = .returned (.tuple #[.int .i64 (ownerP t).1, .bool (ownerP t).2]) ∧ Below W.heap.size W w' := by
  by_cases h4 : kindL t = 4
  · obtain ⟨⟨L, F, ha, hG, hl, h3⟩, _⟩ := h
    rcases h3 _ hi with ⟨e1, e2⟩ | ⟨k, e1, e2, e3⟩
    · simp only at e2
      rw [e2] at h4
      simp [kindL] at h4
    · simp only at e1 e3
      obtain ⟨x, m, e, hx, _, ho, hsh, hm, hme⟩ := pub_is hG e2 (by rw [← e3]; exact h4)
      rw [e1, e3, ho]
      have HV1 : Hid (Calls Try.prog 31 #[.pointer (some ⟨A, 0, none⟩), .int .i64 (k : Int)] W fun r w' => ∃ g, r = .returned (.tuple #[.agg #[.int .i64 4, .int .i64 0, .int .i64 0, .string noStr, .slice (some ⟨g, 0, none⟩) 1 1], .bool true]) ∧ w'.cell? ⟨g, 0, none⟩ = some (.int .i64 (m : Int)) ∧ Below W.heap.size W w') := by
        have hV1 := View_some ha (List.getElem?_eq_getElem e2)
        rw [hsh] at hV1
        exact hV1.mono fun r w' ⟨g, h5, h6, h7⟩ => ⟨g, h5, (h6.cells rfl) 0 _ rfl, h7⟩
      have HV2 : Hid (∀ W', Below W.heap.size W W' → Calls Try.prog 31 #[.pointer (some ⟨A, 0, none⟩), .int .i64 (m : Int)] W' fun r w' => ∃ g, r = .returned (.tuple #[.agg #[.int .i64 3, .int .i64 (x : Int), .int .i64 0, .string noStr, .slice (some ⟨g, 0, none⟩) 0 0], .bool true]) ∧ Below W'.heap.size W' w') := fun W' hb => by
        have hV2 := View_some (ha.below hb) hm
        rw [hme] at hV2
        exact hV2.mono fun r w' ⟨g, h5, _, h7⟩ => ⟨g, h5, h7⟩
      clear ha hG hl h3 hi e1 e3 ho hsh hm hme e2 h4 hx
      generalize (m : Int) = M at *
      generalize (x : Int) = X at *
      go_enter Try.func49, Try.ntmps49
      go_wp2_with (first
        | (go_at_call 31; (with_reducible refine HV1.out.mono ?_); rintro r w1 ⟨g, rfl, c1, b1⟩; have c2 := ((Below.refl w1.heap.size w1).alloc (Nat.le_refl _) (.cells #[.int .i64 4, .int .i64 0, .int .i64 0, .string noStr, .slice (some ⟨g, 0, none⟩) 1 1] 73)).cell (p := ⟨g, 0, none⟩) (World.block_lt_of_cell? _ _ c1); rw [c1] at c2)
        | (go_at_call 31; (with_reducible refine (HV2.out _ (b1.alloc b1.size _)).mono ?_); rintro r w3 ⟨g3, rfl, b3⟩)
        | fail)
      go_ret2
      have b4 := b1.alloc b1.size (.cells #[.int .i64 4, .int .i64 0, .int .i64 0, .string noStr, .slice (some ⟨g, 0, none⟩) 1 1] 73)
      have b5 := b4.trans (b3.mono b4.size)
      first | exact ⟨rfl, b5⟩ | exact ⟨rfl, b5.alloc b5.size _⟩
  · have ho : ownerP t = (0, false) := if_neg h4
    rw [ho]
    have HV : Hid (Calls Try.prog 31 #[.pointer (some ⟨A, 0, none⟩), .int .i64 i] W fun r w' => ∃ (a b : Int) (s : ByteArray) (ao : Option Addr) (m c : Nat) (z : Bool), r = .returned (.tuple #[.agg #[.int .i64 (kindL t : Int), .int .i64 a, .int .i64 b, .string s, .slice ao m c], .bool z]) ∧ Below W.heap.size W w') :=
      (taView h hi).mono fun r w' ⟨a, b, s, ao, m, c, h1, _, _, _, h5⟩ => ⟨a, b, bs s, ao, m, c, _, h1, h5⟩
    have q4 : ((kindL t : Int) == 4) = false := by
      have : (kindL t : Int) ≠ 4 := by omega
      simpa using this
    have q5 : ((kindL t : Int) != 4) = true := by rw [bne, q4]; rfl
    clear h hi ho h4
    generalize (kindL t : Int) = K at *
    go_enter Try.func49, Try.ntmps49
    go_wp2_with (go_at_call 31; (with_reducible refine HV.out.mono ?_); rintro r w1 ⟨a, b, s, ao, m, c, z, rfl, b1⟩)
    go_ret2
    first | exact ⟨rfl, b1.alloc b1.size _⟩ | exact ⟨rfl, b1⟩
end
end Go.Proofs.Ytjlbifpbdocahaa
