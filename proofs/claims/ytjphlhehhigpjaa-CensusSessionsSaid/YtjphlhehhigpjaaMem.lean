/- Small lemmas on memory: what a call leaves, blocks known whole, slices of integers; nothing of the program is run here. -/
import Derived.Test.YtjphlhehhigpjaaProg
import Derived.WalkKit
import Derived.OwnWalk
import Derived.Below
import Derived.Laws.OwnMore
import Derived.Laws.Rows
import Derived.Deep.Draws
import Derived.IntWalk
import Derived.Lib.Hide
namespace Go.Proofs.Ytjphlhehhigpjaa
open Go.RowKit

/-- From w to w' nothing has turned among the old blocks but those of S. -/
structure Moves (S : Nat → Prop) (w w' : World) : Prop where
  os : w'.os = w.os
  tape : w'.tape = w.tape
  output : w'.output = w.output
  size : w.heap.size ≤ w'.heap.size
  block : ∀ k, k < w.heap.size → ¬ S k → w'.heap[k]? = w.heap[k]?

def nobody : Nat → Prop := fun _ => False

theorem Moves.refl (S : Nat → Prop) (w : World) : Moves S w w := ⟨rfl, rfl, rfl, Nat.le_refl _, fun _ _ _ => rfl⟩
theorem Moves.trans {S T : Nat → Prop} {a b c : World} (h : Moves S a b) (k : Moves T b c) (hT : ∀ i, T i → S i ∨ a.heap.size ≤ i) : Moves S a c :=
  ⟨k.os.trans h.os, k.tape.trans h.tape, k.output.trans h.output, Nat.le_trans h.size k.size, fun i hi hs =>
    (k.block i (Nat.lt_of_lt_of_le hi h.size) (fun ht => by rcases hT i ht with h1 | h1; exact hs h1; omega)).trans (h.block i hi hs)⟩
theorem Moves.mono {S T : Nat → Prop} {a b : World} (h : Moves S a b) (hT : ∀ i, S i → i < a.heap.size → T i) : Moves T a b :=
  ⟨h.os, h.tape, h.output, h.size, fun i hi hs => h.block i hi fun hh => hs (hT i hh hi)⟩
theorem Moves.ofBelow {S : Nat → Prop} {a b : World} (h : Below a.heap.size a b) : Moves S a b := ⟨h.os, h.tape, h.output, h.size, fun i hi _ => h.block i hi⟩
theorem Moves.below {S : Nat → Prop} {B : Nat} {a b : World} (h : Moves S a b) (hB : B ≤ a.heap.size) (hS : ∀ i, S i → B ≤ i) : Below B a b :=
  ⟨h.os, h.tape, h.output, h.size, fun i hi => h.block i (by omega) fun hs => by have := hS i hs; omega⟩
theorem Moves.drew {S : Nat → Prop} {a b : World} (h : Moves S a b) : Moves S a b.drew := ⟨h.os, h.tape, h.output, h.size, h.block⟩
theorem Moves.drewN {S : Nat → Prop} {a b : World} (h : Moves S a b) (n : Nat) : Moves S a (b.drewN n) := ⟨h.os, h.tape, h.output, h.size, h.block⟩
theorem Moves.alloc {S : Nat → Prop} {a b : World} (h : Moves S a b) (o : Obj) : Moves S a (b.alloc o) :=
  h.trans (T := nobody) ⟨rfl, rfl, rfl, by simp, fun k hk _ => Below.heap_alloc _ _ _ hk⟩ fun _ hi => hi.elim
theorem Moves.setCell {S : Nat → Prop} {a b : World} (h : Moves S a b) {p : Addr} (hp : S p.block ∨ a.heap.size ≤ p.block) (u : Value) : Moves S a (b.setCell p u) :=
  h.trans (T := fun i => i = p.block) ⟨rfl, rfl, rfl, by simp [World.setCell], fun k _ hk => Below.heap_setCell _ _ _ _ hk⟩ fun i hi => by subst hi; exact hp
theorem Moves.grown {S : Nat → Prop} {a b c : World} {row : Option Nat} (h : Moves S a b) (hg : b.grownBy c row) (hr : ∀ k, row = some k → S k ∨ a.heap.size ≤ k) : Moves S a c :=
  h.trans (T := fun i => row = some i) ⟨hg.os, hg.tape, hg.output, hg.size, fun k hk hne => hg.block k hk fun e => hne e.symm⟩ hr
theorem Moves.setBlock {S : Nat → Prop} {a b : World} (h : Moves S a b) {r : Nat} (o : Obj) (hr : S r ∨ a.heap.size ≤ r) : Moves S a { b with heap := b.heap.setIfInBounds r o } :=
  h.trans (T := fun i => i = r) ⟨rfl, rfl, rfl, by simp, fun k _ hk => by simp [Ne.symm hk]⟩ fun i hi => by subst hi; exact hr
theorem Moves.cell {S : Nat → Prop} {a b : World} (h : Moves S a b) {p : Addr} (hp : p.block < a.heap.size) (hs : ¬ S p.block) : b.cell? p = a.cell? p := World.cell?_of_block (w := a) (h.block p.block hp hs)
theorem Moves.frozen {S : Nat → Prop} {a b : World} (h : Moves S a b) {p : Addr} (hp : p.block < a.heap.size) (hs : ¬ S p.block) : b.frozen? p = a.frozen? p := World.frozen?_of_block (w := a) (h.block p.block hp hs)

/-- Block g holds just these cells, none of them frozen. -/
def Holds (w : World) (g : Nat) (t : TypeId) (cs : Array Value) : Prop := w.heap[g]? = some (.cells cs t (0, 0))
theorem Holds.lt {w : World} {g : Nat} {t : TypeId} {cs : Array Value} (h : Holds w g t cs) : g < w.heap.size := (Array.getElem?_eq_some_iff.1 h).1
theorem Holds.cell {w : World} {g : Nat} {t : TypeId} {cs : Array Value} (h : Holds w g t cs) (i : Nat) : w.cell? ⟨g, i, none⟩ = cs[i]? := cell_of_row w g i cs t (0, 0) h
theorem Holds.frozen {w : World} {g : Nat} {t : TypeId} {cs : Array Value} (h : Holds w g t cs) (i : Nat) : w.frozen? ⟨g, i, none⟩ = false := by
  unfold Holds at h
  simp [World.frozen?, h]
theorem Holds.moves {S : Nat → Prop} {w w' : World} {g : Nat} {t : TypeId} {cs : Array Value} (h : Holds w g t cs) (m : Moves S w w') (hs : ¬ S g) : Holds w' g t cs := (m.block g h.lt hs).trans h
theorem Holds.new (w : World) (t : TypeId) (cs : Array Value) : Holds (w.alloc (.cells cs t)) w.heap.size t cs := heap_alloc_new w _
theorem Holds.set {w : World} {g : Nat} {t : TypeId} {cs : Array Value} (h : Holds w g t cs) (i : Nat) (u : Value) : Holds (w.setCell ⟨g, i, none⟩ u) g t (cs.setIfInBounds i u) := by
  unfold Holds at h ⊢
  simp [World.setCell, Array.getElem?_modify, h]

/-- A slice value that reads as the integers l. -/
def IdsAt (w : World) (v : Value) (l : List Int) : Prop :=
  ∃ ao cap, v = .slice ao l.length cap ∧ (l ≠ [] → ∃ b off, ao = some ⟨b, off, none⟩ ∧ b < w.heap.size ∧ ∀ k x, l[k]? = some x → w.cell? ⟨b, off + k, none⟩ = some (.int .i64 x))

theorem IdsAt.nil (w : World) : IdsAt w (.slice none 0 0) [] := ⟨none, 0, rfl, fun h => absurd rfl h⟩
theorem IdsAt.keep {w w' : World} {v : Value} {l : List Int} (h : IdsAt w v l) (hs : w.heap.size ≤ w'.heap.size) (hc : ∀ b off cap i, v = .slice (some ⟨b, off, none⟩) l.length cap → b < w.heap.size → w'.cell? ⟨b, i, none⟩ = w.cell? ⟨b, i, none⟩) : IdsAt w' v l := by
  obtain ⟨ao, cap, rfl, h⟩ := h
  refine ⟨ao, cap, rfl, fun hne => ?_⟩
  obtain ⟨b, off, rfl, hb, hk⟩ := h hne
  exact ⟨b, off, rfl, by omega, fun k x hx => (hc b off cap _ rfl hb).trans (hk k x hx)⟩
theorem IdsAt.moves {S : Nat → Prop} {w w' : World} {v : Value} {l : List Int} (h : IdsAt w v l) (m : Moves S w w') (hS : ∀ k, v.ownBlock = some k → ¬ S k) : IdsAt w' v l :=
  h.keep m.size fun b off cap i hv hb => m.cell (p := ⟨b, i, none⟩) hb (hS b (by rw [hv]; rfl))
end Go.Proofs.Ytjphlhehhigpjaa
