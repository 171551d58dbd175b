/- Plain definitions for the arena of terms and small lemmas on memory; nothing of the program is run here. -/
import Derived.Test.YtnbhbhogcggbnaaProg
import Derived.WalkKit
import Derived.OwnWalk
import Derived.Below
import Derived.Laws.OwnMore
import Derived.Laws.Rows
import Derived.Deep.Draws
import Derived.IntWalk
import Derived.Lib.Hide
namespace Go.Proofs.Ytnbhbhogcggbnaa
open Go.RowKit

/-- From w to w' nothing has turned among the old blocks but those of S. -/
structure Moves (S : Nat → Prop) (w w' : World) : Prop where
  os : w'.os = w.os
  tape : w'.tape = w.tape
  output : w'.output = w.output
  size : w.heap.size ≤ w'.heap.size
  block : ∀ k, k < w.heap.size → ¬ S k → w'.heap[k]? = w.heap[k]?

def nobody : Nat → Prop := fun _ => False

theorem Moves.refl (S : Nat → Prop) (w : World) : Moves S w w := ⟨rfl, rfl, rfl, Nat.le_refl _, fun _ _ _ => rfl⟩
theorem Moves.trans {S T : Nat → Prop} {a b c : World} (h : Moves S a b) (k : Moves T b c) (hT : ∀ i, T i → S i ∨ a.heap.size ≤ i) : Moves S a c :=
  ⟨k.os.trans h.os, k.tape.trans h.tape, k.output.trans h.output, Nat.le_trans h.size k.size, fun i hi hs =>
    (k.block i (Nat.lt_of_lt_of_le hi h.size) (fun ht => by rcases hT i ht with h1 | h1; exact hs h1; omega)).trans (h.block i hi hs)⟩
theorem Moves.mono {S T : Nat → Prop} {a b : World} (h : Moves S a b) (hT : ∀ i, S i → i < a.heap.size → T i) : Moves T a b :=
  ⟨h.os, h.tape, h.output, h.size, fun i hi hs => h.block i hi fun hh => hs (hT i hh hi)⟩
theorem Moves.ofBelow {S : Nat → Prop} {a b : World} (h : Below a.heap.size a b) : Moves S a b := ⟨h.os, h.tape, h.output, h.size, fun i hi _ => h.block i hi⟩
theorem Moves.below {S : Nat → Prop} {B : Nat} {a b : World} (h : Moves S a b) (hB : B ≤ a.heap.size) (hS : ∀ i, S i → B ≤ i) : Below B a b :=
  ⟨h.os, h.tape, h.output, h.size, fun i hi => h.block i (by omega) fun hs => by have := hS i hs; omega⟩
theorem Moves.drew {S : Nat → Prop} {a b : World} (h : Moves S a b) : Moves S a b.drew := ⟨h.os, h.tape, h.output, h.size, h.block⟩
theorem Moves.drewN {S : Nat → Prop} {a b : World} (h : Moves S a b) (n : Nat) : Moves S a (b.drewN n) := ⟨h.os, h.tape, h.output, h.size, h.block⟩
theorem Moves.alloc {S : Nat → Prop} {a b : World} (h : Moves S a b) (o : Obj) : Moves S a (b.alloc o) :=
  h.trans (T := nobody) ⟨rfl, rfl, rfl, by simp, fun k hk _ => Below.heap_alloc _ _ _ hk⟩ fun _ hi => hi.elim
theorem Moves.setCell {S : Nat → Prop} {a b : World} (h : Moves S a b) {p : Addr} (hp : S p.block ∨ a.heap.size ≤ p.block) (u : Value) : Moves S a (b.setCell p u) :=
  h.trans (T := fun i => i = p.block) ⟨rfl, rfl, rfl, by simp [World.setCell], fun k _ hk => Below.heap_setCell _ _ _ _ hk⟩ fun i hi => by subst hi; exact hp
theorem Moves.grown {S : Nat → Prop} {a b c : World} {row : Option Nat} (h : Moves S a b) (hg : b.grownBy c row) (hr : ∀ k, row = some k → S k ∨ a.heap.size ≤ k) : Moves S a c :=
  h.trans (T := fun i => row = some i) ⟨hg.os, hg.tape, hg.output, hg.size, fun k hk hne => hg.block k hk fun e => hne e.symm⟩ hr
theorem Moves.setBlock {S : Nat → Prop} {a b : World} (h : Moves S a b) {r : Nat} (o : Obj) (hr : S r ∨ a.heap.size ≤ r) : Moves S a { b with heap := b.heap.setIfInBounds r o } :=
  h.trans (T := fun i => i = r) ⟨rfl, rfl, rfl, by simp, fun k _ hk => by simp [Ne.symm hk]⟩ fun i hi => by subst hi; exact hr
theorem Moves.cell {S : Nat → Prop} {a b : World} (h : Moves S a b) {p : Addr} (hp : p.block < a.heap.size) (hs : ¬ S p.block) : b.cell? p = a.cell? p := World.cell?_of_block (w := a) (h.block p.block hp hs)
theorem Moves.frozen {S : Nat → Prop} {a b : World} (h : Moves S a b) {p : Addr} (hp : p.block < a.heap.size) (hs : ¬ S p.block) : b.frozen? p = a.frozen? p := World.frozen?_of_block (w := a) (h.block p.block hp hs)

/-- Block g holds just these cells, none of them frozen. -/
def Holds (w : World) (g : Nat) (t : TypeId) (cs : Array Value) : Prop := w.heap[g]? = some (.cells cs t (0, 0))
theorem Holds.lt {w : World} {g : Nat} {t : TypeId} {cs : Array Value} (h : Holds w g t cs) : g < w.heap.size := (Array.getElem?_eq_some_iff.1 h).1
theorem Holds.cell {w : World} {g : Nat} {t : TypeId} {cs : Array Value} (h : Holds w g t cs) (i : Nat) : w.cell? ⟨g, i, none⟩ = cs[i]? := cell_of_row w g i cs t (0, 0) h
theorem Holds.frozen {w : World} {g : Nat} {t : TypeId} {cs : Array Value} (h : Holds w g t cs) (i : Nat) : w.frozen? ⟨g, i, none⟩ = false := by
  unfold Holds at h
  simp [World.frozen?, h]
theorem Holds.moves {S : Nat → Prop} {w w' : World} {g : Nat} {t : TypeId} {cs : Array Value} (h : Holds w g t cs) (m : Moves S w w') (hs : ¬ S g) : Holds w' g t cs := (m.block g h.lt hs).trans h
theorem Holds.new (w : World) (t : TypeId) (cs : Array Value) : Holds (w.alloc (.cells cs t)) w.heap.size t cs := heap_alloc_new w _
theorem Holds.set {w : World} {g : Nat} {t : TypeId} {cs : Array Value} (h : Holds w g t cs) (i : Nat) (u : Value) : Holds (w.setCell ⟨g, i, none⟩ u) g t (cs.setIfInBounds i u) := by
  unfold Holds at h ⊢
  simp [World.setCell, Array.getElem?_modify, h]

/-- A slice value that reads as the integers l. -/
def IdsAt (w : World) (v : Value) (l : List Int) : Prop :=
  ∃ ao cap, v = .slice ao l.length cap ∧ (l ≠ [] → ∃ b off, ao = some ⟨b, off, none⟩ ∧ b < w.heap.size ∧ ∀ k x, l[k]? = some x → w.cell? ⟨b, off + k, none⟩ = some (.int .i64 x))

theorem IdsAt.nil (w : World) : IdsAt w (.slice none 0 0) [] := ⟨none, 0, rfl, fun h => absurd rfl h⟩
theorem IdsAt.keep {w w' : World} {v : Value} {l : List Int} (h : IdsAt w v l) (hs : w.heap.size ≤ w'.heap.size) (hc : ∀ b off cap i, v = .slice (some ⟨b, off, none⟩) l.length cap → b < w.heap.size → w'.cell? ⟨b, i, none⟩ = w.cell? ⟨b, i, none⟩) : IdsAt w' v l := by
  obtain ⟨ao, cap, rfl, h⟩ := h
  refine ⟨ao, cap, rfl, fun hne => ?_⟩
  obtain ⟨b, off, rfl, hb, hk⟩ := h hne
  exact ⟨b, off, rfl, by omega, fun k x hx => (hc b off cap _ rfl hb).trans (hk k x hx)⟩
theorem IdsAt.moves {S : Nat → Prop} {w w' : World} {v : Value} {l : List Int} (h : IdsAt w v l) (m : Moves S w w') (hS : ∀ k, v.ownBlock = some k → ¬ S k) : IdsAt w' v l :=
  h.keep m.size fun b off cap i hv hb => m.cell (p := ⟨b, i, none⟩) hb (hS b (by rw [hv]; rfl))

/-! ### the arena -/
/-- What describes a term completely. -/
structure Shp where
  kind : Nat
  a : Nat
  b : Nat
  s : ByteArray
  args : List Nat
  deriving DecidableEq

structure Ent where
  sh : Shp
  size : Nat

def pack4 (t : Nat) : List UInt8 := [UInt8.ofNat (t / 16777216), UInt8.ofNat (t / 65536), UInt8.ofNat (t / 256), UInt8.ofNat t]
def packL (l : List Nat) : List UInt8 := l.flatMap pack4
def packB (l : List Nat) : ByteArray := ⟨(packL l).toArray⟩

theorem packL_length (l : List Nat) : (packL l).length = 4 * l.length := by
  induction l with
  | nil => rfl
  | cons t l ih => simp [packL, pack4] at ih ⊢; omega
theorem packL_snoc (l : List Nat) (t : Nat) : packL (l ++ [t]) = packL l ++ pack4 t := by simp [packL]
theorem packB_size (l : List Nat) : (packB l).size = 4 * l.length := by
  have := packL_length l
  simpa [packB, ByteArray.size] using this
theorem ofNat_inj {a b : Nat} (h : UInt8.ofNat a = UInt8.ofNat b) : a % 256 = b % 256 := by
  have := congrArg UInt8.toNat h
  simpa using this
theorem pack4_inj {t u : Nat} (ht : t < 4294967296) (hu : u < 4294967296) (h : pack4 t = pack4 u) : t = u := by
  simp only [pack4, List.cons.injEq, and_true] at h
  obtain ⟨h1, h2, h3, h4⟩ := h
  have := ofNat_inj h1; have := ofNat_inj h2; have := ofNat_inj h3; have := ofNat_inj h4
  omega
theorem packL_inj : ∀ {l m : List Nat}, (∀ t ∈ l, t < 4294967296) → (∀ t ∈ m, t < 4294967296) → packL l = packL m → l = m
  | [], [], _, _, _ => rfl
  | [], u :: m, _, _, h => by have := congrArg List.length h; simp [packL_length] at this
  | t :: l, [], _, _, h => by have := congrArg List.length h; simp [packL_length] at this
  | t :: l, u :: m, hl, hm, h => by
    have h' : pack4 t ++ packL l = pack4 u ++ packL m := h
    obtain ⟨h1, h2⟩ := List.append_inj h' rfl
    rw [pack4_inj (hl t (by simp)) (hm u (by simp)) h1, packL_inj (fun x hx => hl x (by simp [hx])) (fun x hx => hm x (by simp [hx])) h2]
theorem packB_inj {l m : List Nat} (hl : ∀ t ∈ l, t < 4294967296) (hm : ∀ t ∈ m, t < 4294967296) (h : packB l = packB m) : l = m :=
  packL_inj hl hm (by
    have h1 : (packL l).toArray = (packL m).toArray := by injection h
    have := congrArg Array.toList h1
    simpa using this)

def Shp.cells (sh : Shp) : List Value := [.int .i64 sh.kind, .int .i64 sh.a, .int .i64 sh.b, .string sh.s, .string (packB sh.args)]
def Shp.key (sh : Shp) : Value := .agg #[.int .i64 sh.kind, .int .i64 sh.a, .int .i64 sh.b, .string sh.s, .string (packB sh.args)]
def Ent.cells (e : Ent) : List Value := [.int .i64 e.sh.kind, .int .i64 e.sh.a, .int .i64 e.sh.b, .string e.sh.s, .string (packB e.sh.args), .int .i64 e.size]
def cellsOf (L : List Ent) : List Value := L.flatMap Ent.cells

/-- Fit to be the n-th term: the numbers within their kinds, the subterms among the n before. -/
structure Shp.Ok (sh : Shp) (n : Nat) : Prop where
  kind : sh.kind ≤ 10
  a : sh.a ≤ 4294967295
  b : sh.b ≤ 4294967295
  s : sh.s.size ≤ 131072
  args : ∀ t ∈ sh.args, t < n
  many : sh.args.length ≤ 65536

theorem Shp.key_inj {x y : Shp} {n m : Nat} (hx : x.Ok n) (hy : y.Ok m) (hn : n ≤ 4294967296) (hm : m ≤ 4294967296) (h : x.key = y.key) : x = y := by
  obtain ⟨k, a, b, s, l⟩ := x
  obtain ⟨k', a', b', s', l'⟩ := y
  simp only [Shp.key, Value.agg.injEq] at h
  have h' := congrArg Array.toList h
  simp only [List.cons.injEq, Value.int.injEq, Value.string.injEq, and_true, true_and] at h'
  obtain ⟨h1, h2, h3, h4, h5⟩ := h'
  have := packB_inj (fun t ht => Nat.lt_of_lt_of_le (hx.args t ht) hn) (fun t ht => Nat.lt_of_lt_of_le (hy.args t ht) hm) h5
  simp only at this
  have e1 : k = k' := by omega
  have e2 : a = a' := by omega
  have e3 : b = b' := by omega
  subst e1; subst e2; subst e3; subst h4; subst this
  rfl

/-- The number of a shape in the arena. -/
def idx (L : List Ent) (sh : Shp) : Option Nat := L.findIdx? fun e => decide (e.sh = sh)

structure Wf (L : List Ent) : Prop where
  ok : ∀ (i : Nat) (e : Ent), L[i]? = some e → e.sh.Ok i
  size : ∀ e ∈ L, e.size ≤ 131072
  apart : (L.map (·.sh)).Nodup
  len : L.length ≤ 1073741824

theorem idx_some {L : List Ent} {sh : Shp} {i : Nat} (h : idx L sh = some i) : ∃ e, L[i]? = some e ∧ e.sh = sh := by
  unfold idx at h
  obtain ⟨hlt, h1, h2⟩ := List.findIdx?_eq_some_iff_getElem.1 h
  exact ⟨L[i], List.getElem?_eq_getElem hlt, by simpa using h1⟩
theorem idx_none {L : List Ent} {sh : Shp} (h : idx L sh = none) : ∀ e ∈ L, e.sh ≠ sh := by
  unfold idx at h
  rw [List.findIdx?_eq_none_iff] at h
  intro e he hs
  have := h e he
  simp [hs] at this
theorem idx_of {L : List Ent} (hL : (L.map (·.sh)).Nodup) {i : Nat} {e : Ent} (h : L[i]? = some e) : idx L e.sh = some i := by
  cases hx : idx L e.sh with
  | none => exact absurd rfl (idx_none hx e (List.mem_of_getElem? h))
  | some j =>
    obtain ⟨e', hj, he'⟩ := idx_some hx
    have h1 : (L.map (·.sh))[j]? = some e.sh := by simp [hj, he']
    have h2 : (L.map (·.sh))[i]? = some e.sh := by simp [h]
    have hjl := (List.getElem?_eq_some_iff.1 h1).1
    rw [(List.getElem?_inj hjl hL).1 (h1.trans h2.symm)]

def entOf (i : Nat) (e : Ent) : MapEntry := ⟨e.sh.key, .int .i64 i, i⟩
def entsOf (L : List Ent) : List MapEntry := L.mapIdx entOf
theorem entsOf_snoc (L : List Ent) (e : Ent) : entsOf (L ++ [e]) = entsOf L ++ [entOf L.length e] := by simp [entsOf, List.mapIdx_append]
theorem entsOf_get (L : List Ent) (i : Nat) : (entsOf L)[i]? = L[i]?.map (entOf i) := by simp [entsOf]
theorem cellsOf_snoc (L : List Ent) (e : Ent) : cellsOf (L ++ [e]) = cellsOf L ++ e.cells := by simp [cellsOf]
theorem cellsOf_length (L : List Ent) : (cellsOf L).length = L.length * 6 := by
  induction L with
  | nil => rfl
  | cons e L ih => simp only [cellsOf, List.flatMap_cons, List.length_append, List.length_cons] at ih ⊢; rw [ih]; simp [Ent.cells]; omega
theorem cellsOf_get (L : List Ent) : ∀ (i j : Nat) (e : Ent), L[i]? = some e → j < 6 → (cellsOf L)[i * 6 + j]? = e.cells[j]? := by
  induction L with
  | nil => intro i j e h; simp at h
  | cons x L ih =>
    intro i j e h hj
    have hx : x.cells.length = 6 := rfl
    cases i with
    | zero =>
      simp at h
      subst h
      simp only [cellsOf, List.flatMap_cons, Nat.zero_mul, Nat.zero_add]
      rw [List.getElem?_append_left (by omega)]
    | succ i =>
      simp at h
      have := ih i j e h hj
      simp only [cellsOf, List.flatMap_cons] at this ⊢
      rw [List.getElem?_append_right (by omega), ← this]
      congr 1
      omega

/-- Block A is an arena of the terms L; all that it owns lies in the blocks F, from B on. -/
def ArenaAt (B A : Nat) (L : List Ent) (F : Nat → Prop) (w : World) : Prop :=
  ∃ mb tv, Holds w A 74 #[tv, .map (some mb)] ∧ w.ownsRow B 81 6 tv L.length (cellsOf L) ∧ w.heap[mb]? = some (.map (entsOf L).toArray L.length) ∧
    B ≤ A ∧ B ≤ mb ∧ Wf L ∧ F = fun k => k = A ∨ k = mb ∨ tv.ownBlock = some k

theorem ArenaAt.wf {B A : Nat} {L : List Ent} {F : Nat → Prop} {w : World} (h : ArenaAt B A L F w) : Wf L := by
  obtain ⟨_, _, _, _, _, _, _, h, _⟩ := h
  exact h
theorem ArenaAt.lt {B A : Nat} {L : List Ent} {F : Nat → Prop} {w : World} (h : ArenaAt B A L F w) : ∀ k, F k → B ≤ k ∧ k < w.heap.size := by
  obtain ⟨mb, tv, h1, h2, h3, h4, h5, _, rfl⟩ := h
  rintro k (rfl | rfl | hk)
  · exact ⟨h4, h1.lt⟩
  · exact ⟨h5, (Array.getElem?_eq_some_iff.1 h3).1⟩
  · exact h2.lt k hk
theorem ArenaAt.self {B A : Nat} {L : List Ent} {F : Nat → Prop} {w : World} (h : ArenaAt B A L F w) : F A := by
  obtain ⟨mb, tv, h1, h2, h3, h4, h5, _, rfl⟩ := h
  exact .inl rfl
theorem ArenaAt.moves {B A : Nat} {L : List Ent} {F S : Nat → Prop} {w w' : World} (h : ArenaAt B A L F w) (m : Moves S w w') (hS : ∀ k, F k → ¬ S k) : ArenaAt B A L F w' := by
  obtain ⟨mb, tv, h1, h2, h3, h4, h5, h6, rfl⟩ := h
  refine ⟨mb, tv, h1.moves m (hS A (.inl rfl)), ?_, (m.block mb (Array.getElem?_eq_some_iff.1 h3).1 (hS mb (.inr (.inl rfl)))).trans h3, h4, h5, h6, rfl⟩
  refine ⟨h2.1, ?_⟩
  rcases h2.2 with hn | ⟨g, cap, cur, rfl, hb, hg, rest⟩
  · exact .inl hn
  · exact .inr ⟨g, cap, cur, rfl, hb, (m.block g (Array.getElem?_eq_some_iff.1 hg).1 (hS g (.inr (.inr rfl)))).trans hg, rest⟩
theorem ArenaAt.lower {B B' A : Nat} {L : List Ent} {F : Nat → Prop} {w : World} (h : ArenaAt B A L F w) (hB : B' ≤ B) : ArenaAt B' A L F w := by
  obtain ⟨mb, tv, h1, h2, h3, h4, h5, h6, rfl⟩ := h
  refine ⟨mb, tv, h1, ⟨h2.1, ?_⟩, h3, by omega, by omega, h6, rfl⟩
  rcases h2.2 with hn | ⟨g, cap, cur, rfl, hb, rest⟩
  · exact .inl hn
  · exact .inr ⟨g, cap, cur, rfl, by omega, rest⟩

/-- What a call on an arena leaves: the terms L', the rest as it was. -/
def Left (B A : Nat) (L' : List Ent) (F : Nat → Prop) (w w' : World) : Prop :=
  ∃ F', ArenaAt B A L' F' w' ∧ Moves F w w' ∧ ∀ k, F' k → F k ∨ w.heap.size ≤ k
end Go.Proofs.Ytnbhbhogcggbnaa
