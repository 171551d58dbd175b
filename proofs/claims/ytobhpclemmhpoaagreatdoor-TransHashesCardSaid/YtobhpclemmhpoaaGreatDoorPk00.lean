/- Part 0 of what the statement wants. -/
import Derived.Test.YtobhpclemmhpoaaGreatDoorProg
import Derived.WalkKit
import Derived.OwnWalk
import Derived.Below
import Derived.Laws.OwnMore
import Derived.Laws.Rows
import Derived.Deep.Draws
import Derived.IntWalk
import Derived.Lib.Hide
import Derived.Outline
import Derived.Laws.BytesArg
import Derived.Laws.MakeOwn
import Derived.Laws.NewBlocks
import Derived.Laws.BitsAllLaws
import Derived.Laws.BitsLemmas
import Derived.KernelRfl
import Derived.Laws.IdiomStrings
import Derived.Laws.Concat
namespace Go.Proofs.YtobhpclemmhpoaaGreatDoor
open Go.RowKit

/-- From w to w' nothing has turned among the old blocks but those of S. -/
structure Moves (S : Nat → Prop) (w w' : World) : Prop where
  os : w'.os = w.os
  tape : w'.tape = w.tape
  output : w'.output = w.output
  size : w.heap.size ≤ w'.heap.size
  block : ∀ k, k < w.heap.size → ¬ S k → w'.heap[k]? = w.heap[k]?

def nobody : Nat → Prop := fun _ => False

theorem Moves.refl (S : Nat → Prop) (w : World) : Moves S w w := ⟨rfl, rfl, rfl, Nat.le_refl _, fun _ _ _ => rfl⟩
theorem Moves.trans {S T : Nat → Prop} {a b c : World} (h : Moves S a b) (k : Moves T b c) (hT : ∀ i, T i → S i ∨ a.heap.size ≤ i) : Moves S a c :=
  ⟨k.os.trans h.os, k.tape.trans h.tape, k.output.trans h.output, Nat.le_trans h.size k.size, fun i hi hs =>
    (k.block i (Nat.lt_of_lt_of_le hi h.size) (fun ht => by rcases hT i ht with h1 | h1; exact hs h1; omega)).trans (h.block i hi hs)⟩
theorem Moves.mono {S T : Nat → Prop} {a b : World} (h : Moves S a b) (hT : ∀ i, S i → i < a.heap.size → T i) : Moves T a b :=
  ⟨h.os, h.tape, h.output, h.size, fun i hi hs => h.block i hi fun hh => hs (hT i hh hi)⟩
theorem Moves.ofBelow {S : Nat → Prop} {a b : World} (h : Below a.heap.size a b) : Moves S a b := ⟨h.os, h.tape, h.output, h.size, fun i hi _ => h.block i hi⟩
theorem Moves.below {S : Nat → Prop} {B : Nat} {a b : World} (h : Moves S a b) (hB : B ≤ a.heap.size) (hS : ∀ i, S i → B ≤ i) : Below B a b :=
  ⟨h.os, h.tape, h.output, h.size, fun i hi => h.block i (by omega) fun hs => by have := hS i hs; omega⟩
theorem Moves.drew {S : Nat → Prop} {a b : World} (h : Moves S a b) : Moves S a b.drew := ⟨h.os, h.tape, h.output, h.size, h.block⟩
theorem Moves.drewN {S : Nat → Prop} {a b : World} (h : Moves S a b) (n : Nat) : Moves S a (b.drewN n) := ⟨h.os, h.tape, h.output, h.size, h.block⟩
theorem Moves.alloc {S : Nat → Prop} {a b : World} (h : Moves S a b) (o : Obj) : Moves S a (b.alloc o) :=
  h.trans (T := nobody) ⟨rfl, rfl, rfl, by simp, fun k hk _ => Below.heap_alloc _ _ _ hk⟩ fun _ hi => hi.elim
theorem Moves.setCell {S : Nat → Prop} {a b : World} (h : Moves S a b) {p : Addr} (hp : S p.block ∨ a.heap.size ≤ p.block) (u : Value) : Moves S a (b.setCell p u) :=
  h.trans (T := fun i => i = p.block) ⟨rfl, rfl, rfl, by simp [World.setCell], fun k _ hk => Below.heap_setCell _ _ _ _ hk⟩ fun i hi => by subst hi; exact hp
theorem Moves.grown {S : Nat → Prop} {a b c : World} {row : Option Nat} (h : Moves S a b) (hg : b.grownBy c row) (hr : ∀ k, row = some k → S k ∨ a.heap.size ≤ k) : Moves S a c :=
  h.trans (T := fun i => row = some i) ⟨hg.os, hg.tape, hg.output, hg.size, fun k hk hne => hg.block k hk fun e => hne e.symm⟩ hr
theorem Moves.setBlock {S : Nat → Prop} {a b : World} (h : Moves S a b) {r : Nat} (o : Obj) (hr : S r ∨ a.heap.size ≤ r) : Moves S a { b with heap := b.heap.setIfInBounds r o } :=
  h.trans (T := fun i => i = r) ⟨rfl, rfl, rfl, by simp, fun k _ hk => by simp [Ne.symm hk]⟩ fun i hi => by subst hi; exact hr
theorem Moves.cell {S : Nat → Prop} {a b : World} (h : Moves S a b) {p : Addr} (hp : p.block < a.heap.size) (hs : ¬ S p.block) : b.cell? p = a.cell? p := World.cell?_of_block (w := a) (h.block p.block hp hs)
theorem Moves.frozen {S : Nat → Prop} {a b : World} (h : Moves S a b) {p : Addr} (hp : p.block < a.heap.size) (hs : ¬ S p.block) : b.frozen? p = a.frozen? p := World.frozen?_of_block (w := a) (h.block p.block hp hs)

/-- Block g holds just these cells, none of them frozen. -/
def Holds (w : World) (g : Nat) (t : TypeId) (cs : Array Value) : Prop := w.heap[g]? = some (.cells cs t (0, 0))
theorem Holds.lt {w : World} {g : Nat} {t : TypeId} {cs : Array Value} (h : Holds w g t cs) : g < w.heap.size := (Array.getElem?_eq_some_iff.1 h).1
theorem Holds.cell {w : World} {g : Nat} {t : TypeId} {cs : Array Value} (h : Holds w g t cs) (i : Nat) : w.cell? ⟨g, i, none⟩ = cs[i]? := cell_of_row w g i cs t (0, 0) h
theorem Holds.frozen {w : World} {g : Nat} {t : TypeId} {cs : Array Value} (h : Holds w g t cs) (i : Nat) : w.frozen? ⟨g, i, none⟩ = false := by
  unfold Holds at h
  simp [World.frozen?, h]
theorem Holds.moves {S : Nat → Prop} {w w' : World} {g : Nat} {t : TypeId} {cs : Array Value} (h : Holds w g t cs) (m : Moves S w w') (hs : ¬ S g) : Holds w' g t cs := (m.block g h.lt hs).trans h
theorem Holds.new (w : World) (t : TypeId) (cs : Array Value) : Holds (w.alloc (.cells cs t)) w.heap.size t cs := heap_alloc_new w _
theorem Holds.set {w : World} {g : Nat} {t : TypeId} {cs : Array Value} (h : Holds w g t cs) (i : Nat) (u : Value) : Holds (w.setCell ⟨g, i, none⟩ u) g t (cs.setIfInBounds i u) := by
  unfold Holds at h ⊢
  simp [World.setCell, Array.getElem?_modify, h]

/-- A slice value that reads as the integers l. -/
def IdsAt (w : World) (v : Value) (l : List Int) : Prop :=
  ∃ ao cap, v = .slice ao l.length cap ∧ (l ≠ [] → ∃ b off, ao = some ⟨b, off, none⟩ ∧ b < w.heap.size ∧ ∀ k x, l[k]? = some x → w.cell? ⟨b, off + k, none⟩ = some (.int .i64 x))

theorem IdsAt.nil (w : World) : IdsAt w (.slice none 0 0) [] := ⟨none, 0, rfl, fun h => absurd rfl h⟩
theorem IdsAt.keep {w w' : World} {v : Value} {l : List Int} (h : IdsAt w v l) (hs : w.heap.size ≤ w'.heap.size) (hc : ∀ b off cap i, v = .slice (some ⟨b, off, none⟩) l.length cap → b < w.heap.size → w'.cell? ⟨b, i, none⟩ = w.cell? ⟨b, i, none⟩) : IdsAt w' v l := by
  obtain ⟨ao, cap, rfl, h⟩ := h
  refine ⟨ao, cap, rfl, fun hne => ?_⟩
  obtain ⟨b, off, rfl, hb, hk⟩ := h hne
  exact ⟨b, off, rfl, by omega, fun k x hx => (hc b off cap _ rfl hb).trans (hk k x hx)⟩
theorem IdsAt.moves {S : Nat → Prop} {w w' : World} {v : Value} {l : List Int} (h : IdsAt w v l) (m : Moves S w w') (hS : ∀ k, v.ownBlock = some k → ¬ S k) : IdsAt w' v l :=
  h.keep m.size fun b off cap i hv hb => m.cell (p := ⟨b, i, none⟩) hb (hS b (by rw [hv]; rfl))
end Go.Proofs.YtobhpclemmhpoaaGreatDoor

namespace Go.Proofs.YtobhpclemmhpoaaGreatDoor
open Go.RowKit

def pack4 (t : Nat) : List UInt8 := [UInt8.ofNat (t / 16777216), UInt8.ofNat (t / 65536), UInt8.ofNat (t / 256), UInt8.ofNat t]
def packL (l : List Nat) : List UInt8 := l.flatMap pack4
def packB (l : List Nat) : ByteArray := ⟨(packL l).toArray⟩
theorem packL_length (l : List Nat) : (packL l).length = 4 * l.length := by
  induction l with
  | nil => rfl
  | cons t l ih => simp [packL, pack4] at ih ⊢; omega
theorem packL_snoc (l : List Nat) (t : Nat) : packL (l ++ [t]) = packL l ++ pack4 t := by simp [packL]
theorem packB_size (l : List Nat) : (packB l).size = 4 * l.length := by
  have := packL_length l
  simpa [packB, ByteArray.size] using this
theorem ofNat_inj {a b : Nat} (h : UInt8.ofNat a = UInt8.ofNat b) : a % 256 = b % 256 := by
  have := congrArg UInt8.toNat h
  simpa using this
theorem pack4_inj {t u : Nat} (ht : t < 4294967296) (hu : u < 4294967296) (h : pack4 t = pack4 u) : t = u := by
  simp only [pack4, List.cons.injEq, and_true] at h
  obtain ⟨h1, h2, h3, h4⟩ := h
  have := ofNat_inj h1; have := ofNat_inj h2; have := ofNat_inj h3; have := ofNat_inj h4
  omega
theorem packL_inj : ∀ {l m : List Nat}, (∀ t ∈ l, t < 4294967296) → (∀ t ∈ m, t < 4294967296) → packL l = packL m → l = m
  | [], [], _, _, _ => rfl
  | [], u :: m, _, _, h => by have := congrArg List.length h; simp [packL_length] at this
  | t :: l, [], _, _, h => by have := congrArg List.length h; simp [packL_length] at this
  | t :: l, u :: m, hl, hm, h => by
    have h' : pack4 t ++ packL l = pack4 u ++ packL m := h
    obtain ⟨h1, h2⟩ := List.append_inj h' rfl
    rw [pack4_inj (hl t (by simp)) (hm u (by simp)) h1, packL_inj (fun x hx => hl x (by simp [hx])) (fun x hx => hm x (by simp [hx])) h2]
theorem packB_inj {l m : List Nat} (hl : ∀ t ∈ l, t < 4294967296) (hm : ∀ t ∈ m, t < 4294967296) (h : packB l = packB m) : l = m :=
  packL_inj hl hm (by
    have h1 : (packL l).toArray = (packL m).toArray := by injection h
    have := congrArg Array.toList h1
    simpa using this)
theorem info_u8 : (Tryz.prog.info? 5).map (fun i => (i.zero, i.size, i.bytes)) = some (some (.int .u8 0), 1, 1) := by kernel_rfl
def byteCells (l : List UInt8) : List Value := l.map fun b => Value.int .u8 b.toNat
theorem byteCells_append (a b : List UInt8) : byteCells (a ++ b) = byteCells a ++ byteCells b := by simp [byteCells]
theorem byteCells_length (a : List UInt8) : (byteCells a).length = a.length := by simp [byteCells]
theorem pack4_cells (t : Nat) (ht : t < 4294967296) : [Value.int .u8 ((t : Int) / 16777216), .int .u8 ((t : Int) / 65536 % 256), .int .u8 ((t : Int) / 256 % 256), .int .u8 ((t : Int) % 256)] = byteCells (pack4 t) := by
  simp [byteCells, pack4]
  omega
theorem packed_step (l : List Nat) (k : Nat) (h : k < l.length) : byteCells (packL (l.take (k + 1))) = byteCells (packL (l.take k)) ++ byteCells (pack4 l[k]) := by
  rw [List.take_succ_eq_append_getElem h, packL_snoc, byteCells_append]
/-- string(b), b a row of bytes of the call's own. -/
theorem run_string_own {w : World} {base g n cap : Nat} {l : List UInt8} (h : w.ownsRow base 5 1 (.slice (some ⟨g, 0, none⟩) n cap) n (byteCells l)) :
    (convert 71 9 (.slice (some ⟨g, 0, none⟩) n cap)).run Tryz.prog w = .ok (.string ⟨l.toArray⟩) w := by
  have hl : l.length = n := by have h1 := h.1; rw [byteCells_length] at h1; omega
  have hc := h.cells (g := g) rfl
  have hr := run_convert_bytes_arg (P := Tryz.prog) w 71 5 Tryz.underlying71 Tryz.underlying5 g 0 n cap (l.map fun b => (b.toNat : Int)) (by simpa using hl) (fun i hi => by
    have := hc i (.int .u8 (l[i]'(by omega)).toNat) (by simp [byteCells, show i < l.length by omega])
    rw [Addr.add_lit] at this
    rw [this]
    simp [List.getD, show i < l.length by omega]) 9 Tryz.underlying9
  have e : strOfNums (l.map fun b => (b.toNat : Int)) = ⟨l.toArray⟩ := by
    have : (l.map fun b => (b.toNat : Int)).map (fun n => UInt8.ofNat n.toNat) = l := by
      rw [List.map_map]
      exact (List.map_congr_left (fun b _ => by simp)).trans (List.map_id l)
    rw [strOfNums, this]
  rw [hr, e]
theorem ofInt64 (a : Nat) (ha : a < 9223372036854775808) : (BitVec.ofInt 64 (a : Int)).toNat = a := by
  rw [BitVec.ofInt_natCast, BitVec.toNat_ofNat]; exact Nat.mod_eq_of_lt (by omega)
theorem or_i64 (a b : Nat) (ha : a < 9223372036854775808) (hb : b < 9223372036854775808) : bits .or .i64 (a : Int) (b : Int) = ((a ||| b : Nat) : Int) := by
  have hx : a ||| b < 2 ^ 63 := Nat.or_lt_two_pow (by omega) (by omega)
  show IntKind.i64.wrap ((BitVec.ofInt 64 (a : Int) ||| BitVec.ofInt 64 (b : Int)).toNat : Int) = _
  rw [BitVec.toNat_or, ofInt64 a ha, ofInt64 b hb, IntKind.wrap_i64]
  omega
theorem join_nat (a b c d : Nat) (hb : b < 256) (hc : c < 256) (hd : d < 256) : a * 16777216 ||| b * 65536 ||| c * 256 ||| d = a * 16777216 + b * 65536 + c * 256 + d := by
  rw [nat_join24 (a * 16777216) (b * 65536) (by omega) (by omega), nat_join16 (a * 16777216 + b * 65536) (c * 256) (by omega) (by omega), nat_join8 (a * 16777216 + b * 65536 + c * 256) d (by omega) (by omega)]
theorem join_i64 (a b c d : Nat) (ha : a < 256) (hb : b < 256) (hc : c < 256) (hd : d < 256) :
    bits .or .i64 (bits .or .i64 (bits .or .i64 ((a : Int) * 16777216) ((b : Int) * 65536)) ((c : Int) * 256)) (d : Int) = ((a * 16777216 + b * 65536 + c * 256 + d : Nat) : Int) := by
  have e1 : (a : Int) * 16777216 = ((a * 16777216 : Nat) : Int) := by omega
  have e2 : (b : Int) * 65536 = ((b * 65536 : Nat) : Int) := by omega
  have e3 : (c : Int) * 256 = ((c * 256 : Nat) : Int) := by omega
  have j1 := nat_join24 (a * 16777216) (b * 65536) (by omega) (by omega)
  have j2 := nat_join16 (a * 16777216 + b * 65536) (c * 256) (by omega) (by omega)
  rw [e1, e2, e3, or_i64 _ _ (by omega) (by omega), or_i64 _ _ (by rw [j1]; omega) (by omega), or_i64 _ _ (by rw [j1, j2]; omega) (by omega), join_nat a b c d hb hc hd]
theorem four_digits (t : Nat) (h : t < 4294967296) : t / 16777216 * 16777216 + t / 65536 % 256 * 65536 + t / 256 % 256 * 256 + t % 256 = t ∧ t / 16777216 < 256 := by
  have e2 : t / 65536 = t / 256 / 256 := by rw [Nat.div_div_eq_div_mul]
  have e3 : t / 16777216 = t / 256 / 256 / 256 := by rw [Nat.div_div_eq_div_mul, Nat.div_div_eq_div_mul]
  rw [e2, e3]
  have d1 := Nat.div_add_mod t 256
  have d2 := Nat.div_add_mod (t / 256) 256
  have d3 := Nat.div_add_mod (t / 256 / 256) 256
  generalize t / 256 / 256 / 256 = q3 at *
  generalize t / 256 / 256 % 256 = r2 at *
  generalize t / 256 / 256 = q2 at *
  generalize t / 256 % 256 = r1 at *
  generalize t / 256 = q1 at *
  generalize t % 256 = r0 at *
  omega
/-- Bytes as a string. -/
def bs (l : List UInt8) : ByteArray := ⟨l.toArray⟩
theorem bs_size (l : List UInt8) : (bs l).size = l.length := by simp [bs, ByteArray.size]
theorem bs_append (a b : List UInt8) : bs a ++ bs b = bs (a ++ b) := by
  apply ByteArray.ext
  simp [bs, ByteArray.data_append]
theorem bs_list (s : ByteArray) : bs s.data.toList = s := by
  apply ByteArray.ext
  simp [bs]
/-- string([]byte{..}): a slice that was just built out of bytes. -/
theorem run_string_new (W : World) (l : List UInt8) (hl : l.length ≤ 1000000) (cs : Array Value) (hcs : cs = (byteCells l).toArray) :
    (convert 71 9 (.slice (some ⟨W.heap.size, 0, none⟩) l.length l.length)).run Tryz.prog (W.alloc (.cells cs 5)) = .ok (.string (bs l)) (W.alloc (.cells cs 5)) := by
  subst hcs
  exact run_string_own (base := 0) ⟨by simp [byteCells], .inr ⟨W.heap.size, l.length, _, rfl, Nat.zero_le _, heap_alloc_new W _, Nat.le_refl _, by unfold maxLen; omega, by simp [byteCells], by rw [List.toList_toArray, Nat.mul_one]; exact List.take_of_length_le (by rw [byteCells_length]; exact Nat.le_refl _)⟩⟩
theorem bs_drop (l : List UInt8) (n : Nat) : (bs l).extract n (bs l).size = bs (l.drop n) := by
  apply ByteArray.ext
  apply Array.ext'
  rw [ByteArray.data_extract, Array.toList_extract, bs_size]
  simp only [bs, List.toList_toArray, List.extract]
  exact List.take_of_length_le (by rw [List.length_drop]; exact Nat.le_refl _)
def num4 : List UInt8 → Nat
  | [a, b, c, d] => a.toNat * 16777216 + b.toNat * 65536 + c.toNat * 256 + d.toNat
  | _ => 0
theorem num4_pack (t : Nat) (h : t < 4294967296) : num4 (pack4 t) = t := by
  have := (four_digits t h).1
  have h0 : t / 16777216 % 256 = t / 16777216 := Nat.mod_eq_of_lt (four_digits t h).2
  simp only [num4, pack4, UInt8.toNat_ofNat', Nat.reducePow]
  rw [h0]
  exact this
/-- A counted string. -/
def cnt (l : List UInt8) : List UInt8 := pack4 l.length ++ l
end Go.Proofs.YtobhpclemmhpoaaGreatDoor

namespace Go.Proofs.YtobhpclemmhpoaaGreatDoor
open Go.RowKit

theorem index_bs (l : List UInt8) (j : Nat) (hj : j < l.length) (W : World) : (Instr.index 9 (.string (bs l)) (.int .i64 (j : Int))).run Tryz.prog W = .ok (.int .u8 (l[j].toNat : Int)) W := by
  rw [run_index_string (P := Tryz.prog) W 9 (bs l) .i64 j Tryz.underlying9, dif_pos (by rw [bs_size]; omega)]
  simp [bs, ByteArray.getElem_eq_getElem_data]
end Go.Proofs.YtobhpclemmhpoaaGreatDoor

namespace Go.Proofs.YtobhpclemmhpoaaGreatDoor
open Go.RowKit

set_option maxRecDepth 100000 in
theorem refU32_any (n : Nat) (hn : n < 4294967296) (w : World) : Calls Tryz.prog 31 #[.int .i64 n] w fun e w' => e = .returned (.string (bs (pack4 n))) ∧ Below w.heap.size w w' := by
  have hc := pack4_cells n hn
  have h0 : (n : Int) / 16777216 % 256 = (n : Int) / 16777216 := by omega
  have hcv := run_string_new w (pack4 n) (by simp [pack4]) #[.int .u8 ((n : Int) / 16777216 % 256), .int .u8 ((n : Int) / 65536 % 256), .int .u8 ((n : Int) / 256 % 256), .int .u8 ((n : Int) % 256)] (by rw [← hc, h0])
  have hl4 : (pack4 n).length = 4 := rfl
  rw [hl4] at hcv
  clear hc hl4 h0
  go_enter Tryz.func31, Tryz.ntmps31
  go_wp2
  go_ret
  exact ⟨rfl, (Below.refl _ _).alloc (Nat.le_refl _) _⟩
end Go.Proofs.YtobhpclemmhpoaaGreatDoor

namespace Go.Proofs.YtobhpclemmhpoaaGreatDoor
open Go.RowKit

def kindL : List UInt8 → Nat
  | [] => 0
  | b :: _ => if b.toNat < 241 ∨ 250 < b.toNat then 0 else b.toNat - 240

set_option maxRecDepth 100000 in
theorem refKind_any (l : List UInt8) (w : World) : Calls Tryz.prog 75 #[.string (bs l)] w fun e w' => e = .returned (.int .i64 (kindL l : Int)) ∧ w' = w := by
  cases l with
  | nil =>
    rw [show bs ([] : List UInt8) = ⟨#[]⟩ from rfl]
    go_enter Tryz.func75, Tryz.ntmps75
    go_wp2
    go_ret
    exact ⟨rfl, rfl⟩
  | cons b r =>
    have hi0 : ∀ W : World, (Instr.index 9 (.string (bs (b :: r))) (.int .i64 0)).run Tryz.prog W = .ok (.int .u8 (b.toNat : Int)) W := fun W => index_bs (b :: r) 0 (by simp) W
    have hsz := bs_size (b :: r)
    simp only [List.length_cons] at hsz
    have hq0 : ((bs (b :: r)).size : Int) ≠ 0 := by omega
    have hb := UInt8.toNat_lt b
    have HK : Hid (kindL (b :: r) = if b.toNat < 241 ∨ 250 < b.toNat then 0 else b.toNat - 240) := rfl
    clear hsz
    generalize bs (b :: r) = S at *
    generalize kindL (b :: r) = kk at *
    generalize b.toNat = n at *
    have hqz : ((S.size : Int) == 0) = false := by rw [beq_eq_false_iff_ne]; exact hq0
    clear hq0
    by_cases h1 : n < 241
    · have HE : Hid (kk = 0) := by show kk = 0; rw [HK.out, if_pos (.inl h1)]
      have q1 : decide ((n : Int) < 241) = true := decide_eq_true (by omega)
      go_enter Tryz.func75, Tryz.ntmps75
      go_wp2
      go_ret
      exact ⟨by rw [HE.out]; rfl, rfl⟩
    · have q1 : decide ((n : Int) < 241) = false := decide_eq_false (by omega)
      by_cases h2 : 250 < n
      · have HE : Hid (kk = 0) := by show kk = 0; rw [HK.out, if_pos (.inr h2)]
        have q2 : decide ((n : Int) > 250) = true := decide_eq_true (by omega)
        go_enter Tryz.func75, Tryz.ntmps75
        go_wp2
        go_ret
        exact ⟨by rw [HE.out]; rfl, rfl⟩
      · have HE : Hid ((kk : Int) = (n : Int) - 240) := by show (kk : Int) = _; rw [HK.out, if_neg (by omega)]; omega
        have q2 : decide ((n : Int) > 250) = false := decide_eq_false (by omega)
        go_enter Tryz.func75, Tryz.ntmps75
        go_wp2
        go_ret
        exact ⟨by rw [HE.out]; rfl, rfl⟩
end Go.Proofs.YtobhpclemmhpoaaGreatDoor

namespace Go.Proofs.YtobhpclemmhpoaaGreatDoor
open Go.RowKit

theorem ba_beq (a b : ByteArray) : (a == b) = (a.data == b.data) := rfl
instance ba_law : LawfulBEq ByteArray where
  eq_of_beq := by
    intro a b h
    rw [ba_beq] at h
    cases a; cases b
    exact congrArg _ (eq_of_beq h)
  rfl := by
    intro a
    rw [ba_beq]
    exact beq_self_eq_true _

end Go.Proofs.YtobhpclemmhpoaaGreatDoor

namespace Go.Proofs.YtobhpclemmhpoaaGreatDoor
open Go.RowKit

/-- A slice value that reads as the strings l. -/
def TextsAt (w : World) (v : Value) (l : List ByteArray) : Prop :=
  ∃ ao cap, v = .slice ao l.length cap ∧ (l ≠ [] → ∃ b off, ao = some ⟨b, off, none⟩ ∧ b < w.heap.size ∧ ∀ k x, l[k]? = some x → w.cell? ⟨b, off + k, none⟩ = some (.string x))

theorem TextsAt.nil (w : World) : TextsAt w (.slice none 0 0) [] := ⟨none, 0, rfl, fun h => absurd rfl h⟩
theorem TextsAt.keep {w w' : World} {v : Value} {l : List ByteArray} (h : TextsAt w v l) (hs : w.heap.size ≤ w'.heap.size) (hc : ∀ b off cap i, v = .slice (some ⟨b, off, none⟩) l.length cap → b < w.heap.size → w'.cell? ⟨b, i, none⟩ = w.cell? ⟨b, i, none⟩) : TextsAt w' v l := by
  obtain ⟨ao, cap, rfl, h⟩ := h
  refine ⟨ao, cap, rfl, fun hne => ?_⟩
  obtain ⟨b, off, rfl, hb, hk⟩ := h hne
  exact ⟨b, off, rfl, by omega, fun k x hx => (hc b off cap _ rfl hb).trans (hk k x hx)⟩
theorem TextsAt.below {w w' : World} {v : Value} {l : List ByteArray} (h : TextsAt w v l) (hb : Below w.heap.size w w') : TextsAt w' v l :=
  h.keep hb.size fun _ _ _ _ _ hlt => hb.cell hlt
theorem TextsAt.drew {w : World} {v : Value} {l : List ByteArray} (h : TextsAt w v l) : TextsAt w.drew v l := h
/-- The slice of the first n. -/
theorem TextsAt.take {w : World} {ao : Option Addr} {cap : Nat} {l : List ByteArray} (h : TextsAt w (.slice ao l.length cap) l) {n : Nat} (hn : n ≤ l.length) (c : Nat) : TextsAt w (.slice ao n c) (l.take n) := by
  obtain ⟨ao', cap', hv, h⟩ := h
  simp only [Value.slice.injEq] at hv
  obtain ⟨rfl, _, rfl⟩ := hv
  refine ⟨ao, c, by simp [Nat.min_eq_left hn], fun hne => ?_⟩
  obtain ⟨b, off, rfl, hb, hk⟩ := h (by rintro rfl; simp at hne)
  refine ⟨b, off, rfl, hb, fun k x hx => hk k x ?_⟩
  have hk' : k < n := by
    have := (List.getElem?_eq_some_iff.1 hx).1
    simp at this
    omega
  rw [List.getElem?_take] at hx
  simpa [hk'] using hx
end Go.Proofs.YtobhpclemmhpoaaGreatDoor
