/- An arena that grew, its terms beside their texts: each constructor and each question as a contract on texts. -/
import Derived.Test.YtemhifeddejkjaaMostM
import Derived.Test.YtemhifeddejkjaaNone
import Derived.Test.YtemhifeddejkjaaView
namespace Go.Proofs.Ytemhifeddejkjaa
open Go.RowKit

/-- Rows that are no part of an arena stay as they are. -/
structure Kept (W w' : World) : Prop where
  size : W.heap.size ≤ w'.heap.size
  hold : ∀ (g : Nat) (t : TypeId) (cs : Array Value), t ≠ 58 → t ≠ 71 → Holds W g t cs → Holds w' g t cs
theorem Kept.refl (W : World) : Kept W W := ⟨Nat.le_refl _, fun _ _ _ _ _ h => h⟩
theorem Kept.trans {a b c : World} (h : Kept a b) (k : Kept b c) : Kept a c := ⟨Nat.le_trans h.size k.size, fun g t cs h1 h2 h3 => k.hold g t cs h1 h2 (h.hold g t cs h1 h2 h3)⟩
theorem Kept.ofBelow {a b : World} (h : Below a.heap.size a b) : Kept a b := ⟨h.size, fun _ _ _ _ _ h3 => (h.block _ h3.lt).trans h3⟩
theorem Kept.ofMoves {a b : World} {B A : Nat} {L : List Ent} {F : Nat → Prop} (ha : ArenaAt B A L F a) (h : Moves F a b) : Kept a b := ⟨h.size, fun _ _ _ h1 h2 h3 => h3.moves h (arena_ne ha h3 h1 h2)⟩

/-- The arena at A grew from w0 on; the numbers stand beside the texts of their terms; it has at most n terms. -/
structure Ta (B : Nat) (w0 : World) (A : Nat) (P : List (Int × List UInt8)) (n : Nat) (W : World) : Prop where
  ar : ∃ L F, ArenaAt B A L F W ∧ Good L ∧ L.length ≤ n ∧ ∀ p ∈ P, TAt L p.1 p.2
  bel : Below B w0 W
section
variable {B A n : Nat} {w0 W : World} {P : List (Int × List UInt8)}
theorem Ta.lt (h : Ta B w0 A P n W) : B < W.heap.size := by
  obtain ⟨⟨L, F, ha, _⟩, _⟩ := h
  have := ha.lt A ha.self
  omega
theorem Ta.below {W' : World} (h : Ta B w0 A P n W) (hb : Below W.heap.size W W') : Ta B w0 A P n W' := by
  have hl := h.lt
  obtain ⟨⟨L, F, ha, h1⟩, h2⟩ := h
  exact ⟨⟨L, F, ha.below hb, h1⟩, h2.trans (hb.mono (Nat.le_of_lt hl))⟩
theorem Ta.drew (h : Ta B w0 A P n W) : Ta B w0 A P n W.drew := h.below (Below.refl _ _).drew
theorem Ta.alloc (h : Ta B w0 A P n W) (o : Obj) : Ta B w0 A P n (W.alloc o) := h.below ((Below.refl _ _).alloc (Nat.le_refl _) o)
/-- A store into a row that is no part of the arena. -/
theorem Ta.set (h : Ta B w0 A P n W) {g : Nat} {t : TypeId} {cs : Array Value} (hg : Holds W g t cs) (h1 : t ≠ 58) (h2 : t ≠ 71) (hB : B ≤ g) (i : Nat) (v : Value) : Ta B w0 A P n (W.setCell ⟨g, i, none⟩ v) := by
  obtain ⟨⟨L, F, ha, h3⟩, h4⟩ := h
  have hn := arena_ne ha hg h1 h2
  exact ⟨⟨L, F, ha.moves ((Moves.refl (fun k => k = g) W).setCell (p := ⟨g, i, none⟩) (.inl rfl) v) (fun k hk e => hn (e ▸ hk)), h3⟩, h4.setCell (p := ⟨g, i, none⟩) hB v⟩
theorem Ta.mono {Q : List (Int × List UInt8)} {m : Nat} (h : Ta B w0 A P n W) (hn : n ≤ m) (hQ : ∀ p ∈ Q, p ∈ P) : Ta B w0 A Q m W := by
  obtain ⟨⟨L, F, ha, h1, h2, h3⟩, h4⟩ := h
  exact ⟨⟨L, F, ha, h1, Nat.le_trans h2 hn, fun p hp => h3 p (hQ p hp)⟩, h4⟩
theorem Ta.cons {p : Int × List UInt8} (h : Ta B w0 A P n W) (hp : p ∈ P ∨ p = (-1, [])) : Ta B w0 A (p :: P) n W := by
  obtain ⟨⟨L, F, ha, h1, h2, h3⟩, h4⟩ := h
  refine ⟨⟨L, F, ha, h1, h2, fun q hq => ?_⟩, h4⟩
  rcases List.mem_cons.1 hq with rfl | hq
  · rcases hp with hp | rfl
    · exact h3 _ hp
    · exact .inl ⟨rfl, rfl⟩
  · exact h3 q hq
theorem Ta.same (h : Ta B w0 A P n W) {i j : Int} {t u : List UInt8} (h1 : (i, t) ∈ P) (h2 : (j, u) ∈ P) : i = j ↔ t = u := by
  obtain ⟨⟨L, F, ha, hG, _, h3⟩, _⟩ := h
  exact (h3 _ h1).same hG (h3 _ h2)
theorem Ta.none (h : Ta B w0 A P n W) {i : Int} {t : List UInt8} (h1 : (i, t) ∈ P) : i = -1 ↔ t = [] := by
  obtain ⟨⟨L, F, ha, hG, _, h3⟩, _⟩ := h
  exact (h3 _ h1).none_iff hG
theorem Ta.short (h : Ta B w0 A P n W) {i : Int} {t : List UInt8} (h1 : (i, t) ∈ P) : t.length ≤ 131072 := by
  obtain ⟨⟨L, F, ha, hG, _, h3⟩, _⟩ := h
  exact (h3 _ h1).short hG
theorem Ta.nine (h : Ta B w0 A P n W) {i : Int} {t : List UInt8} (h1 : (i, t) ∈ P) : t.length ≤ 10000 ∨ kindL t ≠ 2 := by
  obtain ⟨⟨L, F, ha, hG, _, h3⟩, _⟩ := h
  exact (h3 _ h1).nine hG
theorem Ta.raisable (h : Ta B w0 A P n W) {i : Int} {t : List UInt8} (h1 : (i, t) ∈ P) : Raisable t := by
  obtain ⟨⟨L, F, ha, hG, _, h3⟩, _⟩ := h
  exact (h3 _ h1).raisable hG
/-- What a text is, that stands beside a number. -/
theorem Ta.text (h : Ta B w0 A P n W) {i : Int} {t : List UInt8} (h1 : (i, t) ∈ P) : t = [] ∨ ∃ (L : List Ent) (k : Nat), Good L ∧ k < L.length ∧ t = enc L k ∧ L.length ≤ n := by
  obtain ⟨⟨L, F, ha, hG, hl, h3⟩, _⟩ := h
  rcases h3 _ h1 with ⟨_, h⟩ | ⟨k, _, h4, h5⟩
  · exact .inl h
  · exact .inr ⟨L, k, hG, h4, h5, hl⟩

/-- What a call that makes terms leaves: the number of the term with the text t, of k terms more at most. -/
abbrev TaPost (B : Nat) (w0 : World) (A : Nat) (P : List (Int × List UInt8)) (n : Nat) (W : World) (t : List UInt8) (r : Ending) (w' : World) : Prop :=
  ∃ i : Int, r = .returned (.int .i64 i) ∧ Ta B w0 A ((i, t) :: P) n w' ∧ Kept W w'
theorem Ta.makes (h : Ta B w0 A P n W) {f : FuncId} {args : Array Value} {t : List UInt8} (hc : ∀ L F, ArenaAt B A L F W → Good L → L.length ≤ n → (∀ p ∈ P, TAt L p.1 p.2) → Calls Try.prog f args W fun r w' => ∃ m, Same L m t ∧ Makes B A F W m r w') :
    Calls Try.prog f args W (TaPost B w0 A P (n + 1) W t) := by
  obtain ⟨⟨L, F, ha, hG, hl, h3⟩, h4⟩ := h
  refine (hc L F ha hG hl h3).mono fun r w' ⟨m, hs, hm⟩ => ?_
  obtain ⟨h5, F', h6, h7⟩ := hm.out ha
  have hmv : Moves F W w' := Left.moves hm.2
  have hmore := hs.more
  refine ⟨m.1, h5, ⟨⟨m.2, F', h6, hs.good, by omega, fun p hp => ?_⟩, h4.trans h7⟩, Kept.ofMoves ha hmv⟩
  rcases List.mem_cons.1 hp with rfl | hp
  · exact hs.is
  · exact (h3 p hp).pre hs.good hs.pre
theorem taData (h : Ta B w0 A P n W) (hn : n ≤ 100000) (s : List UInt8) (hs : s.length ≤ 1000000) : Calls Try.prog 31 #[.pointer (some ⟨A, 0, none⟩), .string (bs s)] W (TaPost B w0 A P (n + 1) W (refDataL s)) :=
  h.makes fun L F ha hG hl _ => (Data_any ha (by omega) (bs s) (by rw [bs_size]; omega)).mono fun r w' hm => ⟨_, data_same hG (by omega) s, hm⟩
theorem taNonce (h : Ta B w0 A P n W) (hn : n ≤ 100000) (x y : Int) : Calls Try.prog 32 #[.pointer (some ⟨A, 0, none⟩), .int .i64 x, .int .i64 y] W (TaPost B w0 A P (n + 1) W (refNonceL x y)) :=
  h.makes fun L F ha hG hl _ => (Nonce_any ha (by omega) x y).mono fun r w' hm => ⟨_, nonce_same hG (by omega) x y, hm⟩
theorem taKey (h : Ta B w0 A P n W) (hn : n ≤ 100000) (x : Int) : Calls Try.prog 17 #[.pointer (some ⟨A, 0, none⟩), .int .i64 x] W (TaPost B w0 A P (n + 1) W (refKeyL x)) :=
  h.makes fun L F ha hG hl _ => (Key_any ha (by omega) x).mono fun r w' hm => ⟨_, key_same hG (by omega) x, hm⟩
theorem taBase (h : Ta B w0 A P n W) (hn : n ≤ 100000) (s : List UInt8) (hs : s.length ≤ 1000000) : Calls Try.prog 34 #[.pointer (some ⟨A, 0, none⟩), .string (bs s)] W (TaPost B w0 A P (n + 1) W (refBaseL s)) :=
  h.makes fun L F ha hG hl _ => (Base_any ha (by omega) (bs s) (by rw [bs_size]; omega)).mono fun r w' hm => ⟨_, base_same hG (by omega) s, hm⟩
theorem taPub (h : Ta B w0 A P n W) (hn : n ≤ 100000) {i : Int} {t : List UInt8} (h1 : (i, t) ∈ P) : Calls Try.prog 33 #[.pointer (some ⟨A, 0, none⟩), .int .i64 i] W (TaPost B w0 A P (n + 1) W (refPubL t)) :=
  h.makes fun L F ha hG hl h3 => (Pub_any ha (by omega) i).mono fun r w' hm => ⟨_, pub_same hG (by omega) (h3 _ h1), hm⟩
theorem taHash (h : Ta B w0 A P n W) (hn : n ≤ 100000) {i : Int} {t : List UInt8} (h1 : (i, t) ∈ P) : Calls Try.prog 37 #[.pointer (some ⟨A, 0, none⟩), .int .i64 i] W (TaPost B w0 A P (n + 1) W (refHashL t)) :=
  h.makes fun L F ha hG hl h3 => (Hash_any ha (by omega) i).mono fun r w' hm => ⟨_, hash_same hG (by omega) (h3 _ h1), hm⟩
theorem taExp (h : Ta B w0 A P n W) (hn : n ≤ 100000) {i j : Int} {t u : List UInt8} (h1 : (i, t) ∈ P) (h2 : (j, u) ∈ P) : Calls Try.prog 35 #[.pointer (some ⟨A, 0, none⟩), .int .i64 i, .int .i64 j] W (TaPost B w0 A P (n + 1) W (refExpL t u)) :=
  h.makes fun L F ha hG hl h3 => (Exp_any ha (by omega) i j).mono fun r w' ⟨m, he, hm⟩ => ⟨m, exp_same L i j t u m hG (by omega) (h3 _ h1) (h3 _ h2) he, hm⟩
theorem taSign (h : Ta B w0 A P n W) (hn : n ≤ 100000) (s : List UInt8) (hs : s.length ≤ 1000000) {i j : Int} {t u : List UInt8} (h1 : (i, t) ∈ P) (h2 : (j, u) ∈ P) : Calls Try.prog 36 #[.pointer (some ⟨A, 0, none⟩), .string (bs s), .int .i64 i, .int .i64 j] W (TaPost B w0 A P (n + 1) W (refSignL s t u)) :=
  h.makes fun L F ha hG hl h3 => (Sign_any ha (by omega) (bs s) (by rw [bs_size]; omega) i j).mono fun r w' hm => ⟨_, sign_same hG (by omega) s (h3 _ h1) (h3 _ h2), hm⟩
theorem taDerive (h : Ta B w0 A P n W) (hn : n ≤ 100000) (c : UInt8) {i j k : Int} {t u v : List UInt8} (h1 : (i, t) ∈ P) (h2 : (j, u) ∈ P) (h3 : (k, v) ∈ P) : Calls Try.prog 21 #[.pointer (some ⟨A, 0, none⟩), .int .u8 (c.toNat : Int), .int .i64 i, .int .i64 j, .int .i64 k] W (TaPost B w0 A P (n + 1) W (refDeriveL c t u v)) :=
  h.makes fun L F ha hG hl h4 => (Derive_any ha (by omega) c.toNat (by have := c.toNat_lt; omega) i j k).mono fun r w' hm => ⟨_, derive_same hG (by omega) c (h4 _ h1) (h4 _ h2) (h4 _ h3), hm⟩
theorem taList (h : Ta B w0 A P n W) (hn : n ≤ 100000) {v : Value} (Q : List (Int × List UInt8)) (hv : IdsAt W v (Q.map (·.1))) (hq : Q.length ≤ 65536) (hQ : ∀ q ∈ Q, q ∈ P) : Calls Try.prog 26 #[.pointer (some ⟨A, 0, none⟩), v] W (TaPost B w0 A P (n + 1) W (refListL (Q.map (·.2)))) :=
  h.makes fun L F ha hG hl h3 => (List_any ha (by omega) hv (by simpa using hq)).mono fun r w' hm => ⟨_, list_same hG (by omega) (tats_of _ _ (by simp) fun k i t h1 h2 => by
    rw [List.getElem?_map, Option.map_eq_some_iff] at h1 h2
    obtain ⟨q, hq1, rfl⟩ := h1
    obtain ⟨q', hq2, rfl⟩ := h2
    rw [hq1] at hq2
    injection hq2 with hq2
    subst hq2
    exact h3 _ (hQ _ (List.mem_of_getElem? hq1))), hm⟩
theorem taKind (h : Ta B w0 A P n W) {i : Int} {t : List UInt8} (h1 : (i, t) ∈ P) : Calls Try.prog 57 #[.pointer (some ⟨A, 0, none⟩), .int .i64 i] W fun e w' => e = .returned (.int .i64 (kindL t : Int)) ∧ W = w' := by
  obtain ⟨⟨L, F, ha, hG, _, h3⟩, _⟩ := h
  rw [← kind_tat hG (h3 _ h1)]
  exact Kind_any ha i
theorem taSize (h : Ta B w0 A P n W) {i : Int} {t : List UInt8} (h1 : (i, t) ∈ P) : Calls Try.prog 16 #[.pointer (some ⟨A, 0, none⟩), .int .i64 i] W fun e w' => e = .returned (.int .i64 (t.length : Int)) ∧ W = w' := by
  obtain ⟨⟨L, F, ha, hG, _, h3⟩, _⟩ := h
  have e : sizeAt L i = (t.length : Int) := by
    rcases h3 _ h1 with ⟨h4, h5⟩ | ⟨k, h4, h5, h6⟩
    · simp only at h4 h5
      rw [h4, h5]
      simp [sizeAt, at_no (L := L) (i := -1) (.inl (by omega))]
    · simp only at h4 h6
      have he : L[k]? = some L[k] := List.getElem?_eq_getElem h5
      rw [h4, h6, enc_length hG k _ he]
      simp [sizeAt, at_nat, he]
  rw [← e]
  exact Size_any ha i
theorem taEncode (h : Ta B w0 A P n W) {i : Int} {t : List UInt8} (h1 : (i, t) ∈ P) : Calls Try.prog 11 #[.pointer (some ⟨A, 0, none⟩), .int .i64 i] W fun r w' => r = .returned (.string (bs t)) ∧ Below W.heap.size W w' := by
  obtain ⟨⟨L, F, ha, hG, _, h3⟩, _⟩ := h
  rcases h3 _ h1 with ⟨h4, h5⟩ | ⟨k, h4, h5, h6⟩
  · simp only at h4 h5
    rw [h4, h5]
    exact Encode_no ha (-1) (.inl (by omega))
  · simp only at h4 h6
    have he : L[k]? = some L[k] := List.getElem?_eq_getElem h5
    rw [h4, h6]
    refine Encode_any ha hG.encodable he ?_
    rw [enc_length hG k _ he]
    have := hG.wf.size _ (List.mem_of_getElem? he)
    omega
/-- What View tells of a text. -/
theorem taView (h : Ta B w0 A P n W) {i : Int} {t : List UInt8} (h1 : (i, t) ∈ P) : Calls Try.prog 18 #[.pointer (some ⟨A, 0, none⟩), .int .i64 i] W fun r w' => ∃ (a b : Nat) (s : List UInt8) (ao : Option Addr) (m c : Nat), r = .returned (.tuple #[.agg #[.int .i64 (kindL t : Int), .int .i64 a, .int .i64 b, .string (bs s), .slice ao m c], .bool (!t.isEmpty)]) ∧ (t ≠ [] → nodeOf t = ⟨kindL t, a, b, s, (nodeOf t).args⟩ ∧ m = (nodeOf t).args.length) ∧ m ≤ 65536 ∧ s.length ≤ 131072 ∧ Below W.heap.size W w' := by
  obtain ⟨⟨L, F, ha, hG, _, h3⟩, _⟩ := h
  rcases h3 _ h1 with ⟨h4, h5⟩ | ⟨k, h4, h5, h6⟩
  · simp only at h4 h5
    rw [h4, h5]
    refine (View_no ha (-1) (.inl (by omega))).mono fun r w' ⟨h6, h7⟩ => ⟨0, 0, [], Option.none, 0, 0, ?_, fun hh => absurd rfl hh, by omega, by simp, h7⟩
    rw [h6]
    rfl
  · simp only at h4 h6
    have he : L[k]? = some L[k] := List.getElem?_eq_getElem h5
    have hok := hG.wf.ok k _ he
    have hk : kindL t = L[k].sh.kind := by rw [h6, hG.enc_eq he, kind_head (hG.sh k _ he)]
    have hne : t ≠ [] := by rw [h6]; exact enc_ne hG h5
    have hem : t.isEmpty = false := by cases t with
      | nil => exact absurd rfl hne
      | cons => rfl
    rw [h4]
    refine (View_some ha he).mono fun r w' ⟨g, h7, _, h8⟩ => ⟨L[k].sh.a, L[k].sh.b, L[k].sh.s.data.toList, some ⟨g, 0, Option.none⟩, L[k].sh.args.length, L[k].sh.args.length, ?_, fun _ => ?_, hok.many, ?_, h8⟩
    · rw [h7, hem, hk, bs_list]
      rfl
    · rw [h6, nodeOf_enc hG he, ← h6, hk]
      exact ⟨rfl, by simp [nodeSh]⟩
    · have := hok.s
      rw [s_len]
      exact this
end

/-- A new arena. -/
theorem taNew (w : World) : Calls Try.prog 7 #[] w fun e w' => ∃ A, e = .returned (.pointer (some ⟨A, 0, none⟩)) ∧ Ta w.heap.size w A [] 0 w' :=
  (New_any w).mono fun e w' ⟨A, F, h1, h2, h3⟩ => ⟨A, h1, ⟨[], F, h2, Good.nil, Nat.le_refl _, by simp⟩, h3⟩
/-- The harness makes terms, beside their texts. -/
theorem taMakes {w w0 W : World} {B A : Nat} {v : Value} {l : List MakeR} (hM : MakesAt w v l) (h0 : Below w.heap.size w w0) (hB : w.heap.size ≤ B) (ha : Ta B w0 A [] 0 W) (hl : l.length ≤ 1000) (hs : ∀ x ∈ l, x.s.length ≤ 10000) :
    Calls Try.prog 8 #[.pointer (some ⟨A, 0, none⟩), v] W fun e w' => ∃ (ids : List Int) (texts : List (List UInt8)) (ai : Option Addr) (ci : Nat) (at' : Option Addr) (ct : Nat), e = .returned (.agg #[.slice ai l.length ci, .slice at' l.length ct]) ∧
      (ids.length = l.length ∧ texts.length = l.length) ∧ IdsAt w' (.slice ai l.length ci) ids ∧ TextsAt w' (.slice at' l.length ct) (texts.map bs) ∧ Ta B w0 A (ids.zip texts) l.length w' := by
  obtain ⟨⟨L, F, har, hG, hL, _⟩, hb⟩ := ha
  have hL0 : L = [] := List.eq_nil_of_length_eq_zero (by omega)
  subst hL0
  refine (makes_any hM (h0.trans (hb.mono hB)) hB har hl hs (made_ok hl)).mono ?_
  rintro e w' ⟨L, ids, texts, vi, vt, F2, hto, rfl, ⟨ai, ci, rfl, hI⟩, ⟨at', ct, rfl, hT⟩, har2, b2⟩
  have hln := hto.lens
  have hA := hto.all exp_same (by omega)
  refine ⟨ids, texts, ai, ci, at', ct, by rw [List.length_map, hln.1, hln.2], hln, ?_, ?_, ⟨L, F2, har2, hA.good, hA.few, fun p hp => ?_⟩, hb.trans b2⟩
  · rw [← hln.1]; exact ⟨ai, ci, rfl, hI⟩
  · rw [← hln.2, ← List.length_map (f := bs)]; exact ⟨at', ct, rfl, hT⟩
  · obtain ⟨k, hk⟩ := List.mem_iff_getElem?.1 hp
    obtain ⟨h1, h2⟩ := List.getElem?_zip_eq_some.1 hk
    exact hA.pairs.at_ k _ _ h1 h2
theorem pick_in {ids : List Int} {texts : List (List UInt8)} (hl : ids.length = texts.length) (i : Int) : pickP ids texts i ∈ ids.zip texts ∨ pickP ids texts i = (-1, []) := by
  unfold pickP
  split
  · rename_i hh
    left
    have h1 : i.toNat < ids.length := by omega
    have h2 : i.toNat < texts.length := by omega
    refine List.mem_iff_getElem?.2 ⟨i.toNat, List.getElem?_zip_eq_some.2 ⟨?_, ?_⟩⟩
    · simp [List.getD, h1]
    · simp [List.getD, h2]
  · exact .inr rfl
end Go.Proofs.Ytemhifeddejkjaa
