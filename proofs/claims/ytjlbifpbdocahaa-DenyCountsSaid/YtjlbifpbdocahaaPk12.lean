/- Part 12 of what the statement wants. -/
import Derived.Maps.Keyed
import Derived.DeepKeys4
import Derived.WideKeyMaps2
import Derived.KernelRfl
import Derived.Test.YtjlbifpbdocahaaPk01
namespace Go.Proofs.Ytjlbifpbdocahaa
open Go.RowKit

/-! ### the arena -/
/-- What describes a term completely. -/
structure Shp where
  kind : Nat
  a : Nat
  b : Nat
  s : ByteArray
  args : List Nat
  deriving DecidableEq

structure Ent where
  sh : Shp
  size : Nat

def Shp.cells (sh : Shp) : List Value := [.int .i64 sh.kind, .int .i64 sh.a, .int .i64 sh.b, .string sh.s, .string (packB sh.args)]
def Shp.key (sh : Shp) : Value := .agg #[.int .i64 sh.kind, .int .i64 sh.a, .int .i64 sh.b, .string sh.s, .string (packB sh.args)]
def Ent.cells (e : Ent) : List Value := [.int .i64 e.sh.kind, .int .i64 e.sh.a, .int .i64 e.sh.b, .string e.sh.s, .string (packB e.sh.args), .int .i64 e.size]
def cellsOf (L : List Ent) : List Value := L.flatMap Ent.cells

/-- Fit to be the n-th term: the numbers within their kinds, the subterms among the n before. -/
structure Shp.Ok (sh : Shp) (n : Nat) : Prop where
  kind : sh.kind ≤ 10
  a : sh.a ≤ 4294967295
  b : sh.b ≤ 4294967295
  s : sh.s.size ≤ 131072
  args : ∀ t ∈ sh.args, t < n
  many : sh.args.length ≤ 65536

theorem Shp.key_inj {x y : Shp} {n m : Nat} (hx : x.Ok n) (hy : y.Ok m) (hn : n ≤ 4294967296) (hm : m ≤ 4294967296) (h : x.key = y.key) : x = y := by
  obtain ⟨k, a, b, s, l⟩ := x
  obtain ⟨k', a', b', s', l'⟩ := y
  simp only [Shp.key, Value.agg.injEq] at h
  have h' := congrArg Array.toList h
  simp only [List.cons.injEq, Value.int.injEq, Value.string.injEq, and_true, true_and] at h'
  obtain ⟨h1, h2, h3, h4, h5⟩ := h'
  have := packB_inj (fun t ht => Nat.lt_of_lt_of_le (hx.args t ht) hn) (fun t ht => Nat.lt_of_lt_of_le (hy.args t ht) hm) h5
  simp only at this
  have e1 : k = k' := by omega
  have e2 : a = a' := by omega
  have e3 : b = b' := by omega
  subst e1; subst e2; subst e3; subst h4; subst this
  rfl

/-- The number of a shape in the arena. -/
def idx (L : List Ent) (sh : Shp) : Option Nat := L.findIdx? fun e => decide (e.sh = sh)

structure Wf (L : List Ent) : Prop where
  ok : ∀ (i : Nat) (e : Ent), L[i]? = some e → e.sh.Ok i
  size : ∀ e ∈ L, e.size ≤ 131072
  apart : (L.map (·.sh)).Nodup
  len : L.length ≤ 1073741824

theorem idx_some {L : List Ent} {sh : Shp} {i : Nat} (h : idx L sh = some i) : ∃ e, L[i]? = some e ∧ e.sh = sh := by
  unfold idx at h
  obtain ⟨hlt, h1, h2⟩ := List.findIdx?_eq_some_iff_getElem.1 h
  exact ⟨L[i], List.getElem?_eq_getElem hlt, by simpa using h1⟩
theorem idx_none {L : List Ent} {sh : Shp} (h : idx L sh = none) : ∀ e ∈ L, e.sh ≠ sh := by
  unfold idx at h
  rw [List.findIdx?_eq_none_iff] at h
  intro e he hs
  have := h e he
  simp [hs] at this
theorem idx_of {L : List Ent} (hL : (L.map (·.sh)).Nodup) {i : Nat} {e : Ent} (h : L[i]? = some e) : idx L e.sh = some i := by
  cases hx : idx L e.sh with
  | none => exact absurd rfl (idx_none hx e (List.mem_of_getElem? h))
  | some j =>
    obtain ⟨e', hj, he'⟩ := idx_some hx
    have h1 : (L.map (·.sh))[j]? = some e.sh := by simp [hj, he']
    have h2 : (L.map (·.sh))[i]? = some e.sh := by simp [h]
    have hjl := (List.getElem?_eq_some_iff.1 h1).1
    rw [(List.getElem?_inj hjl hL).1 (h1.trans h2.symm)]

def entOf (i : Nat) (e : Ent) : MapEntry := ⟨e.sh.key, .int .i64 i, i⟩
def entsOf (L : List Ent) : List MapEntry := L.mapIdx entOf
theorem entsOf_snoc (L : List Ent) (e : Ent) : entsOf (L ++ [e]) = entsOf L ++ [entOf L.length e] := by simp [entsOf, List.mapIdx_append]
theorem entsOf_get (L : List Ent) (i : Nat) : (entsOf L)[i]? = L[i]?.map (entOf i) := by simp [entsOf]
theorem cellsOf_snoc (L : List Ent) (e : Ent) : cellsOf (L ++ [e]) = cellsOf L ++ e.cells := by simp [cellsOf]
theorem cellsOf_get (L : List Ent) : ∀ (i j : Nat) (e : Ent), L[i]? = some e → j < 6 → (cellsOf L)[i * 6 + j]? = e.cells[j]? := by
  induction L with
  | nil => intro i j e h; simp at h
  | cons x L ih =>
    intro i j e h hj
    have hx : x.cells.length = 6 := rfl
    cases i with
    | zero =>
      simp at h
      subst h
      simp only [cellsOf, List.flatMap_cons, Nat.zero_mul, Nat.zero_add]
      rw [List.getElem?_append_left (by omega)]
    | succ i =>
      simp at h
      have := ih i j e h hj
      simp only [cellsOf, List.flatMap_cons] at this ⊢
      rw [List.getElem?_append_right (by omega), ← this]
      congr 1
      omega

/-- Block A is an arena of the terms L; all that it owns lies in the blocks F, from B on. -/
def ArenaAt (B A : Nat) (L : List Ent) (F : Nat → Prop) (w : World) : Prop :=
  ∃ mb tv, Holds w A 79 #[tv, .map (some mb)] ∧ w.ownsRow B 108 6 tv L.length (cellsOf L) ∧ w.heap[mb]? = some (.map (entsOf L).toArray L.length) ∧
    B ≤ A ∧ B ≤ mb ∧ Wf L ∧ F = fun k => k = A ∨ k = mb ∨ tv.ownBlock = some k

theorem ArenaAt.wf {B A : Nat} {L : List Ent} {F : Nat → Prop} {w : World} (h : ArenaAt B A L F w) : Wf L := by
  obtain ⟨_, _, _, _, _, _, _, h, _⟩ := h
  exact h
theorem ArenaAt.lt {B A : Nat} {L : List Ent} {F : Nat → Prop} {w : World} (h : ArenaAt B A L F w) : ∀ k, F k → B ≤ k ∧ k < w.heap.size := by
  obtain ⟨mb, tv, h1, h2, h3, h4, h5, _, rfl⟩ := h
  rintro k (rfl | rfl | hk)
  · exact ⟨h4, h1.lt⟩
  · exact ⟨h5, (Array.getElem?_eq_some_iff.1 h3).1⟩
  · exact h2.lt k hk
theorem ArenaAt.self {B A : Nat} {L : List Ent} {F : Nat → Prop} {w : World} (h : ArenaAt B A L F w) : F A := by
  obtain ⟨mb, tv, h1, h2, h3, h4, h5, _, rfl⟩ := h
  exact .inl rfl
theorem ArenaAt.moves {B A : Nat} {L : List Ent} {F S : Nat → Prop} {w w' : World} (h : ArenaAt B A L F w) (m : Moves S w w') (hS : ∀ k, F k → ¬ S k) : ArenaAt B A L F w' := by
  obtain ⟨mb, tv, h1, h2, h3, h4, h5, h6, rfl⟩ := h
  refine ⟨mb, tv, h1.moves m (hS A (.inl rfl)), ?_, (m.block mb (Array.getElem?_eq_some_iff.1 h3).1 (hS mb (.inr (.inl rfl)))).trans h3, h4, h5, h6, rfl⟩
  refine ⟨h2.1, ?_⟩
  rcases h2.2 with hn | ⟨g, cap, cur, rfl, hb, hg, rest⟩
  · exact .inl hn
  · exact .inr ⟨g, cap, cur, rfl, hb, (m.block g (Array.getElem?_eq_some_iff.1 hg).1 (hS g (.inr (.inr rfl)))).trans hg, rest⟩
/-- What a call on an arena leaves: the terms L', the rest as it was. -/
def Left (B A : Nat) (L' : List Ent) (F : Nat → Prop) (w w' : World) : Prop :=
  ∃ F', ArenaAt B A L' F' w' ∧ Moves F w w' ∧ ∀ k, F' k → F k ∨ w.heap.size ≤ k
end Go.Proofs.Ytjlbifpbdocahaa

namespace Go.Proofs.Ytjlbifpbdocahaa
open Go.RowKit Go.Maps
theorem keyOf_five {P : Program} {k ti ts : TypeId} {f0 f1 f2 f3 f4 : Field} (hk : P.underlying k = some (.struct #[f0, f1, f2, f3, f4])) (hi : P.underlying ti = some (.int .i64)) (hs : P.underlying ts = some .string)
    (hc : P.cellsOf k = 5) (ci : P.cellsOf ti = 1) (cs : P.cellsOf ts = 1) (kt : P.keyType k = true) (hsz : ∃ m, P.types.size = m + 1)
    (h0 : f0.type = ti ∧ f0.offset = 0) (h1 : f1.type = ti ∧ f1.offset = 1) (h2 : f2.type = ti ∧ f2.offset = 2) (h3 : f3.type = ts ∧ f3.offset = 3) (h4 : f4.type = ts ∧ f4.offset = 4)
    (hn : (#[f0, f1, f2, f3, f4] : Array Field).all (·.name != "_") = true)
    {a b c : Int} {x y : ByteArray} (wa : (Lit.int .i64 a).wf = true) (wb : (Lit.int .i64 b).wf = true) (wc : (Lit.int .i64 c).wf = true) (wx : x.size ≤ maxLen) (wy : y.size ≤ maxLen) :
    ∃ l, keyOf P k (.agg #[.int .i64 a, .int .i64 b, .int .i64 c, .string x, .string y]) = some l := by
  obtain ⟨m, hm⟩ := hsz
  have hf : (Value.agg #[.int .i64 a, .int .i64 b, .int .i64 c, .string x, .string y]).formed P k = true := by simp [Value.formed, hk, hc]
  have lit : ∀ n : Int, (Lit.int .i64 n).wf = true → P.keyLits (m + 1) ti [.int .i64 n] = some [.int .i64 n] := fun n hn => by simp [Program.keyLits, hi, hn]
  have str : ∀ s : ByteArray, s.size ≤ maxLen → P.keyLits (m + 1) ts [.string s] = some [.string s.data.toList] := fun s hn => by simp [Program.keyLits, hs, hn]
  have all : P.keyLits (m + 2) k [.int .i64 a, .int .i64 b, .int .i64 c, .string x, .string y] = some [.int .i64 a, .int .i64 b, .int .i64 c, .string x.data.toList, .string y.data.toList] := by
    unfold Program.keyLits
    rw [hk]
    simp only [List.length_cons, List.length_nil, hc, hn]
    simp only [List.mapM_cons, List.mapM_nil, h0, h1, h2, h3, h4, ci, cs, List.drop_zero, List.drop_succ_cons, List.take_succ_cons, List.take_zero, lit _ wa, lit _ wb, lit _ wc, str _ wx, str _ wy]
    rfl
  unfold keyOf
  rw [hk]
  simp only [kt, hf, hm]
  exact ⟨_, by rw [show (Value.agg #[.int .i64 a, .int .i64 b, .int .i64 c, .string x, .string y]).cells.toList = [.int .i64 a, .int .i64 b, .int .i64 c, .string x, .string y] from rfl, all]; rfl⟩

theorem laidOut : laidOutB Try.prog = true := by kernel_rfl
theorem rowShape : (99 : TypeId) < Try.prog.types.size := of_decide_eq_true (by kernel_rfl)
theorem deepShape : Try.prog.keyTypeAt 2 99 = true := by kernel_rfl
theorem lawK : Keyed Try.prog 99 := Keyed.of_law (deep_law_laid laidOut (m := 2) (by omega) rowShape deepShape (by rw [Try.underlying99]))
theorem cellsShape : Try.prog.cellsOf 99 = 5 := by kernel_rfl
theorem cellsInt : Try.prog.cellsOf 3 = 1 := by kernel_rfl
theorem cellsStr : Try.prog.cellsOf 9 = 1 := by kernel_rfl
theorem keyTypeShape : Try.prog.keyType 99 = true := by kernel_rfl
theorem wf_nat {n : Nat} (h : n ≤ 4294967295) : (Lit.int .i64 (n : Int)).wf = true := WalkArith.wf_i64 (by omega)
theorem succ_of {a k : Nat} (h : k < a) : ∃ n, a = n + 1 := ⟨a - 1, by omega⟩
theorem types_succ : ∃ n, Try.prog.types.size = n + 1 := succ_of rowShape
theorem keyOf_shape {sh : Shp} {n : Nat} (h : sh.Ok n) : ∃ l, keyOf Try.prog 99 sh.key = some l :=
  keyOf_five Try.underlying99 Try.underlying3 Try.underlying9 cellsShape cellsInt cellsStr keyTypeShape types_succ ⟨rfl, rfl⟩ ⟨rfl, rfl⟩ ⟨rfl, rfl⟩ ⟨rfl, rfl⟩ ⟨rfl, rfl⟩ (by kernel_rfl)
    (wf_nat (by have := h.kind; omega)) (wf_nat h.a) (wf_nat h.b) (by have := h.s; unfold maxLen; omega) (by have := h.many; rw [packB_size]; unfold maxLen; omega)

theorem ents_keys {L : List Ent} (hL : Wf L) : ∀ e ∈ (entsOf L).toArray.toList, ∃ l, keyOf Try.prog 99 e.key = some l := by
  intro e he
  obtain ⟨i, hi⟩ := List.mem_iff_getElem?.1 he
  rw [List.toList_toArray, entsOf_get] at hi
  cases hx : L[i]? with
  | none => simp [hx] at hi
  | some x =>
    simp [hx] at hi
    subst hi
    exact keyOf_shape (hL.ok i x hx)

theorem find_in {L : List Ent} (hL : Wf L) {sh : Shp} (hs : sh.Ok L.length) (w : World) :
    (Instr.findKey 99 sh.key (entsOf L)).run Try.prog w = .ok ((idx L sh).map fun i => (i, Value.int .i64 i)) w := by
  obtain ⟨l, hl⟩ := keyOf_shape hs
  have hlen := hL.len
  rcases lawK.find w hl (entsOf L) (by simpa using ents_keys hL) with ⟨h1, h2⟩ | ⟨j, e, h1, h2, h3⟩
  · have : idx L sh = none := by
      cases hx : idx L sh with
      | none => rfl
      | some i =>
        obtain ⟨e, he, hsh⟩ := idx_some hx
        exact absurd (by show e.sh.key = sh.key; rw [hsh]) (h2 (entOf i e) (List.mem_of_getElem? (by rw [entsOf_get, he]; rfl)))
    rw [h1, this]
    rfl
  · rw [entsOf_get] at h2
    cases hx : L[j]? with
    | none => simp [hx] at h2
    | some x =>
      simp [hx] at h2
      subst h2
      have hj : j < L.length := (List.getElem?_eq_some_iff.1 hx).1
      have hsh : x.sh = sh := Shp.key_inj (hL.ok j x hx) hs (by omega) (by omega) h3
      have : idx L sh = some j := by rw [← hsh]; exact idx_of hL.apart hx
      rw [h1, this]
      rfl

theorem run_lookup {L : List Ent} (hL : Wf L) {sh : Shp} (hs : sh.Ok L.length) {w : World} {mb c : Nat} (hb : w.heap[mb]? = some (.map (entsOf L).toArray c)) :
    (Instr.lookup 76 (.map (some mb)) sh.key true).run Try.prog w = .ok (.tuple #[.int .i64 ((idx L sh).getD 0 : Nat), .bool (idx L sh).isSome]) w := by
  obtain ⟨l, hl⟩ := keyOf_shape hs
  have hf := find_in hL hs w
  have hc := lawK.check w (entsOf L).toArray.isEmpty hl
  simp only [List.isEmpty_toArray] at hc
  cases hx : idx L sh with
  | none =>
    rw [hx] at hf
    simp [Instr.lookup, run_underlying Try.underlying76, MapKept.run_getObj_map hb, hc, hf, Result.andThen]
  | some i =>
    rw [hx] at hf
    simp [Instr.lookup, run_underlying Try.underlying76, MapKept.run_getObj_map hb, hc, hf, Result.andThen]

theorem run_put {L : List Ent} (hL : Wf L) {sh : Shp} (hs : sh.Ok L.length) (hn : idx L sh = none) {w : World} {mb : Nat} (hb : w.heap[mb]? = some (.map (entsOf L).toArray L.length)) (size : Nat) :
    (Instr.mapUpdate 76 (.map (some mb)) sh.key (.int .i64 (L.length : Nat))).run Try.prog w = .ok () { w with heap := w.heap.setIfInBounds mb (.map (entsOf (L ++ [⟨sh, size⟩])).toArray (L.length + 1)) } := by
  obtain ⟨l, hl⟩ := keyOf_shape hs
  have hf := find_in hL hs w
  rw [hn] at hf
  simp [Instr.mapUpdate, run_underlying Try.underlying76, MapKept.run_getObj_map hb, lawK.check w false hl, hf, MapKept.run_setObj_map _ hb, Result.andThen, entsOf_snoc, entOf]
end Go.Proofs.Ytjlbifpbdocahaa
