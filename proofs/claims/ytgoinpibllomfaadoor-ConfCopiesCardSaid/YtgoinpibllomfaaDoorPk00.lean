/- Part 0 of what the statement wants. -/
import Derived.Test.YtgoinpibllomfaaDoorProg
import Derived.WalkKit
import Derived.OwnWalk
import Derived.Below
import Derived.Laws.OwnMore
import Derived.Laws.Rows
import Derived.Deep.Draws
import Derived.IntWalk
import Derived.Lib.Hide
import Derived.Outline
import Derived.Laws.BytesArg
import Derived.Laws.MakeOwn
import Derived.Laws.NewBlocks
import Derived.Laws.BitsAllLaws
import Derived.Laws.BitsLemmas
import Derived.KernelRfl
import Derived.Lib.Split
import Derived.Lib.Join
import Derived.Laws.IdiomStrings
namespace Go.Proofs.YtgoinpibllomfaaDoor
open Go.RowKit

/-- From w to w' nothing has turned among the old blocks but those of S. -/
structure Moves (S : Nat → Prop) (w w' : World) : Prop where
  os : w'.os = w.os
  tape : w'.tape = w.tape
  output : w'.output = w.output
  size : w.heap.size ≤ w'.heap.size
  block : ∀ k, k < w.heap.size → ¬ S k → w'.heap[k]? = w.heap[k]?

def nobody : Nat → Prop := fun _ => False

theorem Moves.refl (S : Nat → Prop) (w : World) : Moves S w w := ⟨rfl, rfl, rfl, Nat.le_refl _, fun _ _ _ => rfl⟩
theorem Moves.trans {S T : Nat → Prop} {a b c : World} (h : Moves S a b) (k : Moves T b c) (hT : ∀ i, T i → S i ∨ a.heap.size ≤ i) : Moves S a c :=
  ⟨k.os.trans h.os, k.tape.trans h.tape, k.output.trans h.output, Nat.le_trans h.size k.size, fun i hi hs =>
    (k.block i (Nat.lt_of_lt_of_le hi h.size) (fun ht => by rcases hT i ht with h1 | h1; exact hs h1; omega)).trans (h.block i hi hs)⟩
theorem Moves.mono {S T : Nat → Prop} {a b : World} (h : Moves S a b) (hT : ∀ i, S i → i < a.heap.size → T i) : Moves T a b :=
  ⟨h.os, h.tape, h.output, h.size, fun i hi hs => h.block i hi fun hh => hs (hT i hh hi)⟩
theorem Moves.ofBelow {S : Nat → Prop} {a b : World} (h : Below a.heap.size a b) : Moves S a b := ⟨h.os, h.tape, h.output, h.size, fun i hi _ => h.block i hi⟩
theorem Moves.below {S : Nat → Prop} {B : Nat} {a b : World} (h : Moves S a b) (hB : B ≤ a.heap.size) (hS : ∀ i, S i → B ≤ i) : Below B a b :=
  ⟨h.os, h.tape, h.output, h.size, fun i hi => h.block i (by omega) fun hs => by have := hS i hs; omega⟩
theorem Moves.drew {S : Nat → Prop} {a b : World} (h : Moves S a b) : Moves S a b.drew := ⟨h.os, h.tape, h.output, h.size, h.block⟩
theorem Moves.drewN {S : Nat → Prop} {a b : World} (h : Moves S a b) (n : Nat) : Moves S a (b.drewN n) := ⟨h.os, h.tape, h.output, h.size, h.block⟩
theorem Moves.alloc {S : Nat → Prop} {a b : World} (h : Moves S a b) (o : Obj) : Moves S a (b.alloc o) :=
  h.trans (T := nobody) ⟨rfl, rfl, rfl, by simp, fun k hk _ => Below.heap_alloc _ _ _ hk⟩ fun _ hi => hi.elim
theorem Moves.setCell {S : Nat → Prop} {a b : World} (h : Moves S a b) {p : Addr} (hp : S p.block ∨ a.heap.size ≤ p.block) (u : Value) : Moves S a (b.setCell p u) :=
  h.trans (T := fun i => i = p.block) ⟨rfl, rfl, rfl, by simp [World.setCell], fun k _ hk => Below.heap_setCell _ _ _ _ hk⟩ fun i hi => by subst hi; exact hp
theorem Moves.grown {S : Nat → Prop} {a b c : World} {row : Option Nat} (h : Moves S a b) (hg : b.grownBy c row) (hr : ∀ k, row = some k → S k ∨ a.heap.size ≤ k) : Moves S a c :=
  h.trans (T := fun i => row = some i) ⟨hg.os, hg.tape, hg.output, hg.size, fun k hk hne => hg.block k hk fun e => hne e.symm⟩ hr
theorem Moves.cell {S : Nat → Prop} {a b : World} (h : Moves S a b) {p : Addr} (hp : p.block < a.heap.size) (hs : ¬ S p.block) : b.cell? p = a.cell? p := World.cell?_of_block (w := a) (h.block p.block hp hs)
theorem Moves.frozen {S : Nat → Prop} {a b : World} (h : Moves S a b) {p : Addr} (hp : p.block < a.heap.size) (hs : ¬ S p.block) : b.frozen? p = a.frozen? p := World.frozen?_of_block (w := a) (h.block p.block hp hs)

/-- Block g holds just these cells, none of them frozen. -/
def Holds (w : World) (g : Nat) (t : TypeId) (cs : Array Value) : Prop := w.heap[g]? = some (.cells cs t (0, 0))
theorem Holds.lt {w : World} {g : Nat} {t : TypeId} {cs : Array Value} (h : Holds w g t cs) : g < w.heap.size := (Array.getElem?_eq_some_iff.1 h).1
theorem Holds.cell {w : World} {g : Nat} {t : TypeId} {cs : Array Value} (h : Holds w g t cs) (i : Nat) : w.cell? ⟨g, i, none⟩ = cs[i]? := cell_of_row w g i cs t (0, 0) h
theorem Holds.frozen {w : World} {g : Nat} {t : TypeId} {cs : Array Value} (h : Holds w g t cs) (i : Nat) : w.frozen? ⟨g, i, none⟩ = false := by
  unfold Holds at h
  simp [World.frozen?, h]
theorem Holds.moves {S : Nat → Prop} {w w' : World} {g : Nat} {t : TypeId} {cs : Array Value} (h : Holds w g t cs) (m : Moves S w w') (hs : ¬ S g) : Holds w' g t cs := (m.block g h.lt hs).trans h
theorem Holds.new (w : World) (t : TypeId) (cs : Array Value) : Holds (w.alloc (.cells cs t)) w.heap.size t cs := heap_alloc_new w _
theorem Holds.set {w : World} {g : Nat} {t : TypeId} {cs : Array Value} (h : Holds w g t cs) (i : Nat) (u : Value) : Holds (w.setCell ⟨g, i, none⟩ u) g t (cs.setIfInBounds i u) := by
  unfold Holds at h ⊢
  simp [World.setCell, Array.getElem?_modify, h]

/-- A slice value that reads as the integers l. -/
def IdsAt (w : World) (v : Value) (l : List Int) : Prop :=
  ∃ ao cap, v = .slice ao l.length cap ∧ (l ≠ [] → ∃ b off, ao = some ⟨b, off, none⟩ ∧ b < w.heap.size ∧ ∀ k x, l[k]? = some x → w.cell? ⟨b, off + k, none⟩ = some (.int .i64 x))

theorem IdsAt.nil (w : World) : IdsAt w (.slice none 0 0) [] := ⟨none, 0, rfl, fun h => absurd rfl h⟩
theorem IdsAt.keep {w w' : World} {v : Value} {l : List Int} (h : IdsAt w v l) (hs : w.heap.size ≤ w'.heap.size) (hc : ∀ b off cap i, v = .slice (some ⟨b, off, none⟩) l.length cap → b < w.heap.size → w'.cell? ⟨b, i, none⟩ = w.cell? ⟨b, i, none⟩) : IdsAt w' v l := by
  obtain ⟨ao, cap, rfl, h⟩ := h
  refine ⟨ao, cap, rfl, fun hne => ?_⟩
  obtain ⟨b, off, rfl, hb, hk⟩ := h hne
  exact ⟨b, off, rfl, by omega, fun k x hx => (hc b off cap _ rfl hb).trans (hk k x hx)⟩
theorem IdsAt.moves {S : Nat → Prop} {w w' : World} {v : Value} {l : List Int} (h : IdsAt w v l) (m : Moves S w w') (hS : ∀ k, v.ownBlock = some k → ¬ S k) : IdsAt w' v l :=
  h.keep m.size fun b off cap i hv hb => m.cell (p := ⟨b, i, none⟩) hb (hS b (by rw [hv]; rfl))
end Go.Proofs.YtgoinpibllomfaaDoor

namespace Go.Proofs.YtgoinpibllomfaaDoor
open Go.RowKit

def byteCells (l : List UInt8) : List Value := l.map fun b => Value.int .u8 b.toNat
/-- Bytes as a string. -/
def bs (l : List UInt8) : ByteArray := ⟨l.toArray⟩
theorem bs_size (l : List UInt8) : (bs l).size = l.length := by simp [bs, ByteArray.size]
theorem bs_append (a b : List UInt8) : bs a ++ bs b = bs (a ++ b) := by
  apply ByteArray.ext
  simp [bs, ByteArray.data_append]
theorem bs_inj {a b : List UInt8} (h : bs a = bs b) : a = b := by
  have h1 : a.toArray = b.toArray := by injection h
  simpa using congrArg Array.toList h1
theorem bs_list (s : ByteArray) : bs s.data.toList = s := by
  apply ByteArray.ext
  simp [bs]
end Go.Proofs.YtgoinpibllomfaaDoor

namespace Go.Proofs.YtgoinpibllomfaaDoor
open Go.RowKit

def okB (b : UInt8) : Bool := decide (33 ≤ b.toNat ∧ b.toNat ≤ 126 ∧ b.toNat ≠ 44)
def rightL (x : List UInt8) : Bool := decide (1 ≤ x.length ∧ x.length ≤ 64) && x.all okB
/-! ### parts and join -/
/-! ### the library's splitting -/
end Go.Proofs.YtgoinpibllomfaaDoor

namespace Go.Proofs.YtgoinpibllomfaaDoor
open Go.RowKit

theorem ba_beq (a b : ByteArray) : (a == b) = (a.data == b.data) := rfl
instance ba_law : LawfulBEq ByteArray where
  eq_of_beq := by
    intro a b h
    rw [ba_beq] at h
    cases a; cases b
    exact congrArg _ (eq_of_beq h)
  rfl := by
    intro a
    rw [ba_beq]
    exact beq_self_eq_true _

theorem ba_toList (a : ByteArray) : a.toList = a.data.toList := ByteArray.toList_eq a
/-- The model's test of two strings. -/
theorem same_yes {a b : ByteArray} (h : a = b) : (a.toList == b.toList) = true := by simp [h]
theorem same_no {a b : ByteArray} (h : a ≠ b) : (a.toList == b.toList) = false := by
  rw [beq_eq_false_iff_ne, ba_toList, ba_toList]
  intro e
  apply h
  cases a; cases b
  simpa using e
end Go.Proofs.YtgoinpibllomfaaDoor

namespace Go.Proofs.YtgoinpibllomfaaDoor
open Go.RowKit

/-- A slice value that reads as the strings l. -/
def TextsAt (w : World) (v : Value) (l : List ByteArray) : Prop :=
  ∃ ao cap, v = .slice ao l.length cap ∧ (l ≠ [] → ∃ b off, ao = some ⟨b, off, none⟩ ∧ b < w.heap.size ∧ ∀ k x, l[k]? = some x → w.cell? ⟨b, off + k, none⟩ = some (.string x))

theorem TextsAt.nil (w : World) : TextsAt w (.slice none 0 0) [] := ⟨none, 0, rfl, fun h => absurd rfl h⟩
theorem TextsAt.keep {w w' : World} {v : Value} {l : List ByteArray} (h : TextsAt w v l) (hs : w.heap.size ≤ w'.heap.size) (hc : ∀ b off cap i, v = .slice (some ⟨b, off, none⟩) l.length cap → b < w.heap.size → w'.cell? ⟨b, i, none⟩ = w.cell? ⟨b, i, none⟩) : TextsAt w' v l := by
  obtain ⟨ao, cap, rfl, h⟩ := h
  refine ⟨ao, cap, rfl, fun hne => ?_⟩
  obtain ⟨b, off, rfl, hb, hk⟩ := h hne
  exact ⟨b, off, rfl, by omega, fun k x hx => (hc b off cap _ rfl hb).trans (hk k x hx)⟩
theorem TextsAt.below {w w' : World} {v : Value} {l : List ByteArray} (h : TextsAt w v l) (hb : Below w.heap.size w w') : TextsAt w' v l :=
  h.keep hb.size fun _ _ _ _ _ hlt => hb.cell hlt
theorem TextsAt.drew {w : World} {v : Value} {l : List ByteArray} (h : TextsAt w v l) : TextsAt w.drew v l := h
/-- The slice of the first n. -/
theorem TextsAt.take {w : World} {ao : Option Addr} {cap : Nat} {l : List ByteArray} (h : TextsAt w (.slice ao l.length cap) l) {n : Nat} (hn : n ≤ l.length) (c : Nat) : TextsAt w (.slice ao n c) (l.take n) := by
  obtain ⟨ao', cap', hv, h⟩ := h
  simp only [Value.slice.injEq] at hv
  obtain ⟨rfl, _, rfl⟩ := hv
  refine ⟨ao, c, by simp [Nat.min_eq_left hn], fun hne => ?_⟩
  obtain ⟨b, off, rfl, hb, hk⟩ := h (by rintro rfl; simp at hne)
  refine ⟨b, off, rfl, hb, fun k x hx => hk k x ?_⟩
  have hk' : k < n := by
    have := (List.getElem?_eq_some_iff.1 hx).1
    simp at this
    omega
  rw [List.getElem?_take] at hx
  simpa [hk'] using hx
end Go.Proofs.YtgoinpibllomfaaDoor

namespace Go.Proofs.YtgoinpibllomfaaDoor
open Go.RowKit

theorem conv_bytes (W : World) (l : List UInt8) : ∃ c W', (convert 9 94 (.string (bs l))).run Tryd.prog W = .ok (.slice (some ⟨W.heap.size, 0, none⟩) l.length c) W' ∧
    (∀ (j : Nat) (hj : j < l.length), W'.cell? ⟨W.heap.size, j, none⟩ = some (.int .u8 (l[j].toNat : Int))) ∧ Below W.heap.size W W' ∧ W'.heap.size = W.heap.size + 1 := by
  have h := run_bytes_of_string (P := Tryd.prog) W 9 94 5 (bs l) Tryd.underlying9 Tryd.underlying94 Tryd.underlying5
  rw [bs_size] at h
  refine ⟨_, _, h, fun j hj => ?_, (Below.refl _ _).drew.alloc (Nat.le_refl _) _, by simp⟩
  have hc := World.cell?_alloc_mark W.drew (bytesRow (bs l) (grownCap W l.length 0 5)) 5 ((bytesRow (bs l) (grownCap W l.length 0 5)).size, (bytesRow (bs l) (grownCap W l.length 0 5)).size + 1) j
  rw [show W.drew.heap.size = W.heap.size from rfl] at hc
  rw [hc, bytesRow_at (bs l) _ j (by simpa [bs] using hj)]
  simp [bs]

theorem index_bs (l : List UInt8) (j : Nat) (hj : j < l.length) (W : World) : (Instr.index 9 (.string (bs l)) (.int .i64 (j : Int))).run Tryd.prog W = .ok (.int .u8 (l[j].toNat : Int)) W := by
  rw [run_index_string (P := Tryd.prog) W 9 (bs l) .i64 j Tryd.underlying9, dif_pos (by rw [bs_size]; omega)]
  simp [bs, ByteArray.getElem_eq_getElem_data]
end Go.Proofs.YtgoinpibllomfaaDoor
