/- Plain definitions for the arena of terms; nothing of the program is run here. -/
import Derived.Test.YtemhifeddejkjaaStr
namespace Go.Proofs.Ytemhifeddejkjaa
open Go.RowKit

/-! ### the arena -/
/-- What describes a term completely. -/
structure Shp where
  kind : Nat
  a : Nat
  b : Nat
  s : ByteArray
  args : List Nat
  deriving DecidableEq

structure Ent where
  sh : Shp
  size : Nat

def Shp.cells (sh : Shp) : List Value := [.int .i64 sh.kind, .int .i64 sh.a, .int .i64 sh.b, .string sh.s, .string (packB sh.args)]
def Shp.key (sh : Shp) : Value := .agg #[.int .i64 sh.kind, .int .i64 sh.a, .int .i64 sh.b, .string sh.s, .string (packB sh.args)]
def Ent.cells (e : Ent) : List Value := [.int .i64 e.sh.kind, .int .i64 e.sh.a, .int .i64 e.sh.b, .string e.sh.s, .string (packB e.sh.args), .int .i64 e.size]
def cellsOf (L : List Ent) : List Value := L.flatMap Ent.cells

/-- Fit to be the n-th term: the numbers within their kinds, the subterms among the n before. -/
structure Shp.Ok (sh : Shp) (n : Nat) : Prop where
  kind : sh.kind ≤ 10
  a : sh.a ≤ 4294967295
  b : sh.b ≤ 4294967295
  s : sh.s.size ≤ 131072
  args : ∀ t ∈ sh.args, t < n
  many : sh.args.length ≤ 65536

theorem Shp.key_inj {x y : Shp} {n m : Nat} (hx : x.Ok n) (hy : y.Ok m) (hn : n ≤ 4294967296) (hm : m ≤ 4294967296) (h : x.key = y.key) : x = y := by
  obtain ⟨k, a, b, s, l⟩ := x
  obtain ⟨k', a', b', s', l'⟩ := y
  simp only [Shp.key, Value.agg.injEq] at h
  have h' := congrArg Array.toList h
  simp only [List.cons.injEq, Value.int.injEq, Value.string.injEq, and_true, true_and] at h'
  obtain ⟨h1, h2, h3, h4, h5⟩ := h'
  have := packB_inj (fun t ht => Nat.lt_of_lt_of_le (hx.args t ht) hn) (fun t ht => Nat.lt_of_lt_of_le (hy.args t ht) hm) h5
  simp only at this
  have e1 : k = k' := by omega
  have e2 : a = a' := by omega
  have e3 : b = b' := by omega
  subst e1; subst e2; subst e3; subst h4; subst this
  rfl

/-- The number of a shape in the arena. -/
def idx (L : List Ent) (sh : Shp) : Option Nat := L.findIdx? fun e => decide (e.sh = sh)

structure Wf (L : List Ent) : Prop where
  ok : ∀ (i : Nat) (e : Ent), L[i]? = some e → e.sh.Ok i
  size : ∀ e ∈ L, e.size ≤ 131072
  apart : (L.map (·.sh)).Nodup
  len : L.length ≤ 1073741824

theorem idx_some {L : List Ent} {sh : Shp} {i : Nat} (h : idx L sh = some i) : ∃ e, L[i]? = some e ∧ e.sh = sh := by
  unfold idx at h
  obtain ⟨hlt, h1, h2⟩ := List.findIdx?_eq_some_iff_getElem.1 h
  exact ⟨L[i], List.getElem?_eq_getElem hlt, by simpa using h1⟩
theorem idx_none {L : List Ent} {sh : Shp} (h : idx L sh = none) : ∀ e ∈ L, e.sh ≠ sh := by
  unfold idx at h
  rw [List.findIdx?_eq_none_iff] at h
  intro e he hs
  have := h e he
  simp [hs] at this
theorem idx_of {L : List Ent} (hL : (L.map (·.sh)).Nodup) {i : Nat} {e : Ent} (h : L[i]? = some e) : idx L e.sh = some i := by
  cases hx : idx L e.sh with
  | none => exact absurd rfl (idx_none hx e (List.mem_of_getElem? h))
  | some j =>
    obtain ⟨e', hj, he'⟩ := idx_some hx
    have h1 : (L.map (·.sh))[j]? = some e.sh := by simp [hj, he']
    have h2 : (L.map (·.sh))[i]? = some e.sh := by simp [h]
    have hjl := (List.getElem?_eq_some_iff.1 h1).1
    rw [(List.getElem?_inj hjl hL).1 (h1.trans h2.symm)]

def entOf (i : Nat) (e : Ent) : MapEntry := ⟨e.sh.key, .int .i64 i, i⟩
def entsOf (L : List Ent) : List MapEntry := L.mapIdx entOf
theorem entsOf_snoc (L : List Ent) (e : Ent) : entsOf (L ++ [e]) = entsOf L ++ [entOf L.length e] := by simp [entsOf, List.mapIdx_append]
theorem entsOf_get (L : List Ent) (i : Nat) : (entsOf L)[i]? = L[i]?.map (entOf i) := by simp [entsOf]
theorem cellsOf_snoc (L : List Ent) (e : Ent) : cellsOf (L ++ [e]) = cellsOf L ++ e.cells := by simp [cellsOf]
theorem cellsOf_length (L : List Ent) : (cellsOf L).length = L.length * 6 := by
  induction L with
  | nil => rfl
  | cons e L ih => simp only [cellsOf, List.flatMap_cons, List.length_append, List.length_cons] at ih ⊢; rw [ih]; simp [Ent.cells]; omega
theorem cellsOf_get (L : List Ent) : ∀ (i j : Nat) (e : Ent), L[i]? = some e → j < 6 → (cellsOf L)[i * 6 + j]? = e.cells[j]? := by
  induction L with
  | nil => intro i j e h; simp at h
  | cons x L ih =>
    intro i j e h hj
    have hx : x.cells.length = 6 := rfl
    cases i with
    | zero =>
      simp at h
      subst h
      simp only [cellsOf, List.flatMap_cons, Nat.zero_mul, Nat.zero_add]
      rw [List.getElem?_append_left (by omega)]
    | succ i =>
      simp at h
      have := ih i j e h hj
      simp only [cellsOf, List.flatMap_cons] at this ⊢
      rw [List.getElem?_append_right (by omega), ← this]
      congr 1
      omega

/-- Block A is an arena of the terms L; all that it owns lies in the blocks F, from B on. -/
def ArenaAt (B A : Nat) (L : List Ent) (F : Nat → Prop) (w : World) : Prop :=
  ∃ mb tv, Holds w A 58 #[tv, .map (some mb)] ∧ w.ownsRow B 71 6 tv L.length (cellsOf L) ∧ w.heap[mb]? = some (.map (entsOf L).toArray L.length) ∧
    B ≤ A ∧ B ≤ mb ∧ Wf L ∧ F = fun k => k = A ∨ k = mb ∨ tv.ownBlock = some k

theorem ArenaAt.wf {B A : Nat} {L : List Ent} {F : Nat → Prop} {w : World} (h : ArenaAt B A L F w) : Wf L := by
  obtain ⟨_, _, _, _, _, _, _, h, _⟩ := h
  exact h
theorem ArenaAt.lt {B A : Nat} {L : List Ent} {F : Nat → Prop} {w : World} (h : ArenaAt B A L F w) : ∀ k, F k → B ≤ k ∧ k < w.heap.size := by
  obtain ⟨mb, tv, h1, h2, h3, h4, h5, _, rfl⟩ := h
  rintro k (rfl | rfl | hk)
  · exact ⟨h4, h1.lt⟩
  · exact ⟨h5, (Array.getElem?_eq_some_iff.1 h3).1⟩
  · exact h2.lt k hk
theorem ArenaAt.self {B A : Nat} {L : List Ent} {F : Nat → Prop} {w : World} (h : ArenaAt B A L F w) : F A := by
  obtain ⟨mb, tv, h1, h2, h3, h4, h5, _, rfl⟩ := h
  exact .inl rfl
theorem ArenaAt.moves {B A : Nat} {L : List Ent} {F S : Nat → Prop} {w w' : World} (h : ArenaAt B A L F w) (m : Moves S w w') (hS : ∀ k, F k → ¬ S k) : ArenaAt B A L F w' := by
  obtain ⟨mb, tv, h1, h2, h3, h4, h5, h6, rfl⟩ := h
  refine ⟨mb, tv, h1.moves m (hS A (.inl rfl)), ?_, (m.block mb (Array.getElem?_eq_some_iff.1 h3).1 (hS mb (.inr (.inl rfl)))).trans h3, h4, h5, h6, rfl⟩
  refine ⟨h2.1, ?_⟩
  rcases h2.2 with hn | ⟨g, cap, cur, rfl, hb, hg, rest⟩
  · exact .inl hn
  · exact .inr ⟨g, cap, cur, rfl, hb, (m.block g (Array.getElem?_eq_some_iff.1 hg).1 (hS g (.inr (.inr rfl)))).trans hg, rest⟩
theorem ArenaAt.lower {B B' A : Nat} {L : List Ent} {F : Nat → Prop} {w : World} (h : ArenaAt B A L F w) (hB : B' ≤ B) : ArenaAt B' A L F w := by
  obtain ⟨mb, tv, h1, h2, h3, h4, h5, h6, rfl⟩ := h
  refine ⟨mb, tv, h1, ⟨h2.1, ?_⟩, h3, by omega, by omega, h6, rfl⟩
  rcases h2.2 with hn | ⟨g, cap, cur, rfl, hb, rest⟩
  · exact .inl hn
  · exact .inr ⟨g, cap, cur, rfl, by omega, rest⟩

/-- What a call on an arena leaves: the terms L', the rest as it was. -/
def Left (B A : Nat) (L' : List Ent) (F : Nat → Prop) (w w' : World) : Prop :=
  ∃ F', ArenaAt B A L' F' w' ∧ Moves F w w' ∧ ∀ k, F' k → F k ∨ w.heap.size ≤ k
end Go.Proofs.Ytemhifeddejkjaa
