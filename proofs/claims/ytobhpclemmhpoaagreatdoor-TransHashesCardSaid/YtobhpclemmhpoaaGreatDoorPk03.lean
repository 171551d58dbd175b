/- Part 3 of what the statement wants. -/
import Derived.Maps.Keyed
import Derived.DeepKeys4
import Derived.WideKeyMaps2
import Derived.KernelRfl
import Derived.Outline
import Derived.Laws.BytesArg
import Derived.Laws.MakeOwn
import Derived.Lib.Strings
import Derived.Lib.Walk
import Derived.Lib.BufferWrite
import Derived.Lib.UnsafeStr
import Derived.Deep.DeepFit
import Derived.Maps.Own
import Derived.Test.YtobhpclemmhpoaaGreatDoorPk00
namespace Go.Proofs.YtobhpclemmhpoaaGreatDoor
open Go.RowKit

/-! ### the arena -/
/-- What describes a term completely. -/
structure Shp where
  kind : Nat
  a : Nat
  b : Nat
  s : ByteArray
  args : List Nat
  deriving DecidableEq

structure Ent where
  sh : Shp
  size : Nat

def Shp.cells (sh : Shp) : List Value := [.int .i64 sh.kind, .int .i64 sh.a, .int .i64 sh.b, .string sh.s, .string (packB sh.args)]
def Shp.key (sh : Shp) : Value := .agg #[.int .i64 sh.kind, .int .i64 sh.a, .int .i64 sh.b, .string sh.s, .string (packB sh.args)]
def Ent.cells (e : Ent) : List Value := [.int .i64 e.sh.kind, .int .i64 e.sh.a, .int .i64 e.sh.b, .string e.sh.s, .string (packB e.sh.args), .int .i64 e.size]
def cellsOf (L : List Ent) : List Value := L.flatMap Ent.cells

/-- Fit to be the n-th term: the numbers within their kinds, the subterms among the n before. -/
structure Shp.Ok (sh : Shp) (n : Nat) : Prop where
  kind : sh.kind ≤ 10
  a : sh.a ≤ 4294967295
  b : sh.b ≤ 4294967295
  s : sh.s.size ≤ 131072
  args : ∀ t ∈ sh.args, t < n
  many : sh.args.length ≤ 65536

theorem Shp.key_inj {x y : Shp} {n m : Nat} (hx : x.Ok n) (hy : y.Ok m) (hn : n ≤ 4294967296) (hm : m ≤ 4294967296) (h : x.key = y.key) : x = y := by
  obtain ⟨k, a, b, s, l⟩ := x
  obtain ⟨k', a', b', s', l'⟩ := y
  simp only [Shp.key, Value.agg.injEq] at h
  have h' := congrArg Array.toList h
  simp only [List.cons.injEq, Value.int.injEq, Value.string.injEq, and_true, true_and] at h'
  obtain ⟨h1, h2, h3, h4, h5⟩ := h'
  have := packB_inj (fun t ht => Nat.lt_of_lt_of_le (hx.args t ht) hn) (fun t ht => Nat.lt_of_lt_of_le (hy.args t ht) hm) h5
  simp only at this
  have e1 : k = k' := by omega
  have e2 : a = a' := by omega
  have e3 : b = b' := by omega
  subst e1; subst e2; subst e3; subst h4; subst this
  rfl

/-- The number of a shape in the arena. -/
def idx (L : List Ent) (sh : Shp) : Option Nat := L.findIdx? fun e => decide (e.sh = sh)

structure Wf (L : List Ent) : Prop where
  ok : ∀ (i : Nat) (e : Ent), L[i]? = some e → e.sh.Ok i
  size : ∀ e ∈ L, e.size ≤ 131072
  apart : (L.map (·.sh)).Nodup
  len : L.length ≤ 1073741824

theorem idx_some {L : List Ent} {sh : Shp} {i : Nat} (h : idx L sh = some i) : ∃ e, L[i]? = some e ∧ e.sh = sh := by
  unfold idx at h
  obtain ⟨hlt, h1, h2⟩ := List.findIdx?_eq_some_iff_getElem.1 h
  exact ⟨L[i], List.getElem?_eq_getElem hlt, by simpa using h1⟩
theorem idx_none {L : List Ent} {sh : Shp} (h : idx L sh = none) : ∀ e ∈ L, e.sh ≠ sh := by
  unfold idx at h
  rw [List.findIdx?_eq_none_iff] at h
  intro e he hs
  have := h e he
  simp [hs] at this
theorem idx_of {L : List Ent} (hL : (L.map (·.sh)).Nodup) {i : Nat} {e : Ent} (h : L[i]? = some e) : idx L e.sh = some i := by
  cases hx : idx L e.sh with
  | none => exact absurd rfl (idx_none hx e (List.mem_of_getElem? h))
  | some j =>
    obtain ⟨e', hj, he'⟩ := idx_some hx
    have h1 : (L.map (·.sh))[j]? = some e.sh := by simp [hj, he']
    have h2 : (L.map (·.sh))[i]? = some e.sh := by simp [h]
    have hjl := (List.getElem?_eq_some_iff.1 h1).1
    rw [(List.getElem?_inj hjl hL).1 (h1.trans h2.symm)]

def entOf (i : Nat) (e : Ent) : MapEntry := ⟨e.sh.key, .int .i64 i, i⟩
def entsOf (L : List Ent) : List MapEntry := L.mapIdx entOf
theorem entsOf_snoc (L : List Ent) (e : Ent) : entsOf (L ++ [e]) = entsOf L ++ [entOf L.length e] := by simp [entsOf, List.mapIdx_append]
theorem entsOf_get (L : List Ent) (i : Nat) : (entsOf L)[i]? = L[i]?.map (entOf i) := by simp [entsOf]
theorem cellsOf_snoc (L : List Ent) (e : Ent) : cellsOf (L ++ [e]) = cellsOf L ++ e.cells := by simp [cellsOf]
theorem cellsOf_get (L : List Ent) : ∀ (i j : Nat) (e : Ent), L[i]? = some e → j < 6 → (cellsOf L)[i * 6 + j]? = e.cells[j]? := by
  induction L with
  | nil => intro i j e h; simp at h
  | cons x L ih =>
    intro i j e h hj
    have hx : x.cells.length = 6 := rfl
    cases i with
    | zero =>
      simp at h
      subst h
      simp only [cellsOf, List.flatMap_cons, Nat.zero_mul, Nat.zero_add]
      rw [List.getElem?_append_left (by omega)]
    | succ i =>
      simp at h
      have := ih i j e h hj
      simp only [cellsOf, List.flatMap_cons] at this ⊢
      rw [List.getElem?_append_right (by omega), ← this]
      congr 1
      omega

/-- Block A is an arena of the terms L; all that it owns lies in the blocks F, from B on. -/
def ArenaAt (B A : Nat) (L : List Ent) (F : Nat → Prop) (w : World) : Prop :=
  ∃ mb tv, Holds w A 66 #[tv, .map (some mb)] ∧ w.ownsRow B 90 6 tv L.length (cellsOf L) ∧ w.heap[mb]? = some (.map (entsOf L).toArray L.length) ∧
    B ≤ A ∧ B ≤ mb ∧ Wf L ∧ F = fun k => k = A ∨ k = mb ∨ tv.ownBlock = some k

theorem ArenaAt.wf {B A : Nat} {L : List Ent} {F : Nat → Prop} {w : World} (h : ArenaAt B A L F w) : Wf L := by
  obtain ⟨_, _, _, _, _, _, _, h, _⟩ := h
  exact h
theorem ArenaAt.lt {B A : Nat} {L : List Ent} {F : Nat → Prop} {w : World} (h : ArenaAt B A L F w) : ∀ k, F k → B ≤ k ∧ k < w.heap.size := by
  obtain ⟨mb, tv, h1, h2, h3, h4, h5, _, rfl⟩ := h
  rintro k (rfl | rfl | hk)
  · exact ⟨h4, h1.lt⟩
  · exact ⟨h5, (Array.getElem?_eq_some_iff.1 h3).1⟩
  · exact h2.lt k hk
theorem ArenaAt.self {B A : Nat} {L : List Ent} {F : Nat → Prop} {w : World} (h : ArenaAt B A L F w) : F A := by
  obtain ⟨mb, tv, h1, h2, h3, h4, h5, _, rfl⟩ := h
  exact .inl rfl
theorem ArenaAt.moves {B A : Nat} {L : List Ent} {F S : Nat → Prop} {w w' : World} (h : ArenaAt B A L F w) (m : Moves S w w') (hS : ∀ k, F k → ¬ S k) : ArenaAt B A L F w' := by
  obtain ⟨mb, tv, h1, h2, h3, h4, h5, h6, rfl⟩ := h
  refine ⟨mb, tv, h1.moves m (hS A (.inl rfl)), ?_, (m.block mb (Array.getElem?_eq_some_iff.1 h3).1 (hS mb (.inr (.inl rfl)))).trans h3, h4, h5, h6, rfl⟩
  refine ⟨h2.1, ?_⟩
  rcases h2.2 with hn | ⟨g, cap, cur, rfl, hb, hg, rest⟩
  · exact .inl hn
  · exact .inr ⟨g, cap, cur, rfl, hb, (m.block g (Array.getElem?_eq_some_iff.1 hg).1 (hS g (.inr (.inr rfl)))).trans hg, rest⟩
/-- What a call on an arena leaves: the terms L', the rest as it was. -/
def Left (B A : Nat) (L' : List Ent) (F : Nat → Prop) (w w' : World) : Prop :=
  ∃ F', ArenaAt B A L' F' w' ∧ Moves F w w' ∧ ∀ k, F' k → F k ∨ w.heap.size ≤ k
end Go.Proofs.YtobhpclemmhpoaaGreatDoor

namespace Go.Proofs.YtobhpclemmhpoaaGreatDoor
open Go.RowKit Go.Maps
theorem keyOf_five {P : Program} {k ti ts : TypeId} {f0 f1 f2 f3 f4 : Field} (hk : P.underlying k = some (.struct #[f0, f1, f2, f3, f4])) (hi : P.underlying ti = some (.int .i64)) (hs : P.underlying ts = some .string)
    (hc : P.cellsOf k = 5) (ci : P.cellsOf ti = 1) (cs : P.cellsOf ts = 1) (kt : P.keyType k = true) (hsz : ∃ m, P.types.size = m + 1)
    (h0 : f0.type = ti ∧ f0.offset = 0) (h1 : f1.type = ti ∧ f1.offset = 1) (h2 : f2.type = ti ∧ f2.offset = 2) (h3 : f3.type = ts ∧ f3.offset = 3) (h4 : f4.type = ts ∧ f4.offset = 4)
    (hn : (#[f0, f1, f2, f3, f4] : Array Field).all (·.name != "_") = true)
    {a b c : Int} {x y : ByteArray} (wa : (Lit.int .i64 a).wf = true) (wb : (Lit.int .i64 b).wf = true) (wc : (Lit.int .i64 c).wf = true) (wx : x.size ≤ maxLen) (wy : y.size ≤ maxLen) :
    ∃ l, keyOf P k (.agg #[.int .i64 a, .int .i64 b, .int .i64 c, .string x, .string y]) = some l := by
  obtain ⟨m, hm⟩ := hsz
  have hf : (Value.agg #[.int .i64 a, .int .i64 b, .int .i64 c, .string x, .string y]).formed P k = true := by simp [Value.formed, hk, hc]
  have lit : ∀ n : Int, (Lit.int .i64 n).wf = true → P.keyLits (m + 1) ti [.int .i64 n] = some [.int .i64 n] := fun n hn => by simp [Program.keyLits, hi, hn]
  have str : ∀ s : ByteArray, s.size ≤ maxLen → P.keyLits (m + 1) ts [.string s] = some [.string s.data.toList] := fun s hn => by simp [Program.keyLits, hs, hn]
  have all : P.keyLits (m + 2) k [.int .i64 a, .int .i64 b, .int .i64 c, .string x, .string y] = some [.int .i64 a, .int .i64 b, .int .i64 c, .string x.data.toList, .string y.data.toList] := by
    unfold Program.keyLits
    rw [hk]
    simp only [List.length_cons, List.length_nil, hc, hn]
    simp only [List.mapM_cons, List.mapM_nil, h0, h1, h2, h3, h4, ci, cs, List.drop_zero, List.drop_succ_cons, List.take_succ_cons, List.take_zero, lit _ wa, lit _ wb, lit _ wc, str _ wx, str _ wy]
    rfl
  unfold keyOf
  rw [hk]
  simp only [kt, hf, hm]
  exact ⟨_, by rw [show (Value.agg #[.int .i64 a, .int .i64 b, .int .i64 c, .string x, .string y]).cells.toList = [.int .i64 a, .int .i64 b, .int .i64 c, .string x, .string y] from rfl, all]; rfl⟩

theorem laidOut : laidOutB Tryz.prog = true := by kernel_rfl
theorem rowShape : (87 : TypeId) < Tryz.prog.types.size := of_decide_eq_true (by kernel_rfl)
theorem deepShape : Tryz.prog.keyTypeAt 2 87 = true := by kernel_rfl
theorem lawK : Keyed Tryz.prog 87 := Keyed.of_law (deep_law_laid laidOut (m := 2) (by omega) rowShape deepShape (by rw [Tryz.underlying87]))
theorem cellsShape : Tryz.prog.cellsOf 87 = 5 := by kernel_rfl
theorem cellsInt : Tryz.prog.cellsOf 3 = 1 := by kernel_rfl
theorem cellsStr : Tryz.prog.cellsOf 9 = 1 := by kernel_rfl
theorem keyTypeShape : Tryz.prog.keyType 87 = true := by kernel_rfl
theorem wf_nat {n : Nat} (h : n ≤ 4294967295) : (Lit.int .i64 (n : Int)).wf = true := WalkArith.wf_i64 (by omega)
theorem succ_of {a k : Nat} (h : k < a) : ∃ n, a = n + 1 := ⟨a - 1, by omega⟩
theorem types_succ : ∃ n, Tryz.prog.types.size = n + 1 := succ_of rowShape
theorem keyOf_shape {sh : Shp} {n : Nat} (h : sh.Ok n) : ∃ l, keyOf Tryz.prog 87 sh.key = some l :=
  keyOf_five Tryz.underlying87 Tryz.underlying3 Tryz.underlying9 cellsShape cellsInt cellsStr keyTypeShape types_succ ⟨rfl, rfl⟩ ⟨rfl, rfl⟩ ⟨rfl, rfl⟩ ⟨rfl, rfl⟩ ⟨rfl, rfl⟩ (by kernel_rfl)
    (wf_nat (by have := h.kind; omega)) (wf_nat h.a) (wf_nat h.b) (by have := h.s; unfold maxLen; omega) (by have := h.many; rw [packB_size]; unfold maxLen; omega)

theorem ents_keys {L : List Ent} (hL : Wf L) : ∀ e ∈ (entsOf L).toArray.toList, ∃ l, keyOf Tryz.prog 87 e.key = some l := by
  intro e he
  obtain ⟨i, hi⟩ := List.mem_iff_getElem?.1 he
  rw [List.toList_toArray, entsOf_get] at hi
  cases hx : L[i]? with
  | none => simp [hx] at hi
  | some x =>
    simp [hx] at hi
    subst hi
    exact keyOf_shape (hL.ok i x hx)

theorem find_in {L : List Ent} (hL : Wf L) {sh : Shp} (hs : sh.Ok L.length) (w : World) :
    (Instr.findKey 87 sh.key (entsOf L)).run Tryz.prog w = .ok ((idx L sh).map fun i => (i, Value.int .i64 i)) w := by
  obtain ⟨l, hl⟩ := keyOf_shape hs
  have hlen := hL.len
  rcases lawK.find w hl (entsOf L) (by simpa using ents_keys hL) with ⟨h1, h2⟩ | ⟨j, e, h1, h2, h3⟩
  · have : idx L sh = none := by
      cases hx : idx L sh with
      | none => rfl
      | some i =>
        obtain ⟨e, he, hsh⟩ := idx_some hx
        exact absurd (by show e.sh.key = sh.key; rw [hsh]) (h2 (entOf i e) (List.mem_of_getElem? (by rw [entsOf_get, he]; rfl)))
    rw [h1, this]
    rfl
  · rw [entsOf_get] at h2
    cases hx : L[j]? with
    | none => simp [hx] at h2
    | some x =>
      simp [hx] at h2
      subst h2
      have hj : j < L.length := (List.getElem?_eq_some_iff.1 hx).1
      have hsh : x.sh = sh := Shp.key_inj (hL.ok j x hx) hs (by omega) (by omega) h3
      have : idx L sh = some j := by rw [← hsh]; exact idx_of hL.apart hx
      rw [h1, this]
      rfl

theorem run_lookup {L : List Ent} (hL : Wf L) {sh : Shp} (hs : sh.Ok L.length) {w : World} {mb c : Nat} (hb : w.heap[mb]? = some (.map (entsOf L).toArray c)) :
    (Instr.lookup 63 (.map (some mb)) sh.key true).run Tryz.prog w = .ok (.tuple #[.int .i64 ((idx L sh).getD 0 : Nat), .bool (idx L sh).isSome]) w := by
  obtain ⟨l, hl⟩ := keyOf_shape hs
  have hf := find_in hL hs w
  have hc := lawK.check w (entsOf L).toArray.isEmpty hl
  simp only [List.isEmpty_toArray] at hc
  cases hx : idx L sh with
  | none =>
    rw [hx] at hf
    simp [Instr.lookup, run_underlying Tryz.underlying63, MapKept.run_getObj_map hb, hc, hf, Result.andThen]
  | some i =>
    rw [hx] at hf
    simp [Instr.lookup, run_underlying Tryz.underlying63, MapKept.run_getObj_map hb, hc, hf, Result.andThen]

theorem run_put {L : List Ent} (hL : Wf L) {sh : Shp} (hs : sh.Ok L.length) (hn : idx L sh = none) {w : World} {mb : Nat} (hb : w.heap[mb]? = some (.map (entsOf L).toArray L.length)) (size : Nat) :
    (Instr.mapUpdate 63 (.map (some mb)) sh.key (.int .i64 (L.length : Nat))).run Tryz.prog w = .ok () { w with heap := w.heap.setIfInBounds mb (.map (entsOf (L ++ [⟨sh, size⟩])).toArray (L.length + 1)) } := by
  obtain ⟨l, hl⟩ := keyOf_shape hs
  have hf := find_in hL hs w
  rw [hn] at hf
  simp [Instr.mapUpdate, run_underlying Tryz.underlying63, MapKept.run_getObj_map hb, lawK.check w false hl, hf, MapKept.run_setObj_map _ hb, Result.andThen, entsOf_snoc, entOf]
end Go.Proofs.YtobhpclemmhpoaaGreatDoor

namespace Go.Proofs.YtobhpclemmhpoaaGreatDoor
open Go.RowKit
set_option maxRecDepth 100000 in
theorem pack_any (v : Value) (l : List Nat) (w : World) (hv : IdsAt w v (l.map Int.ofNat)) (hl : l.length ≤ 65536) (ht : ∀ t ∈ l, t < 4294967296) :
    Calls Tryz.prog 70 #[v] w fun e w' => e = .returned (.string (packB l)) ∧ Below w.heap.size w w' := by
  obtain ⟨ao, cap, rfl, hc⟩ := hv
  obtain ⟨i0, hi, hz0, hz1, hz2⟩ := info_parts info_u8
  simp only [List.length_map] at *
  go_enter Tryz.func70, Tryz.ntmps70
  go_wp2_with (at_make; refine wpList_make_own _ rfl _ _ 71 rfl w.heap.size 5 i0 _ 1 Tryz.underlying71 hi hz0 hz1 _ _ _ (4 * l.length) rfl rfl (by omega) ?b1 ?b2 ?b3 ?_)
  case b1 => rw [hz2]; omega
  case b2 => unfold maxLen; omega
  case b3 => exact Nat.le_refl _
  intro w1 hown hgrow
  have hbel : Below w.heap.size w w1 := (Below.refl _ _).grown hgrow (Nat.le_refl _) (by simp)
  go_wp2
  go_loopw [3, 12] (fun v i wr => ∃ k : Nat, k ≤ l.length ∧ i = .int .i64 k ∧ v = .slice (some ⟨w.heap.size, 0, none⟩) (4 * k) (4 * l.length) ∧
      wr.ownsRow w.heap.size 5 1 (.slice (some ⟨w.heap.size, 0, none⟩) (4 * k) (4 * l.length)) (4 * k) (byteCells (packL (l.take k))) ∧ Below w.heap.size w wr) (fun _ i _ => l.length - (intOf i).toNat)
  case atStart => exact ⟨0, Nat.zero_le _, rfl, rfl, by simpa [packL, byteCells] using hown, hbel⟩
  case round =>
    clear hown hbel hgrow
    obtain ⟨k, hk, rfl, rfl, hown, hbel⟩ := hrel
    by_cases hlt : k < l.length
    · obtain ⟨b, off, rfl, hb, hcell⟩ := hc (by intro h; simp at h; subst h; simp at hlt)
      have htk := ht l[k] (List.getElem_mem hlt)
      obtain ⟨t, hT⟩ : ∃ t, t = l[k] := ⟨_, rfl⟩
      have hc1 := (hbel.cell (p := ⟨b, off + k, none⟩) hb).trans (hcell k (t : Int) (by simp [hT, hlt]))
      rw [← hT] at htk
      clear hcell hc ht
      have HT := Lib.hid hT
      clear hT
      go_wp2_with (at_builtin; refine wpList_append_fits _ rfl (.tmp 16) (.tmp 28) _ rfl w.heap.size 5 i0 1 Tryz.underlying71 hi hz1 w.heap.size (4 * k) (4 * l.length) _ rfl (hown.alloc _) ⟨wr.heap.size, 0, none⟩ 4 4 [.int .u8 ((t : Int) / 16777216), .int .u8 ((t : Int) / 65536 % 256), .int .u8 ((t : Int) / 256 % 256), .int .u8 ((t : Int) % 256)] rfl rfl ?c1 ?c2 (by omega) ?_)
      case c1 =>
        intro j u hj
        have hg := Holds.new wr 5 #[.int .u8 ((t : Int) / 16777216), .int .u8 ((t : Int) / 65536 % 256), .int .u8 ((t : Int) / 256 % 256), .int .u8 ((t : Int) % 256)]
        rw [Addr.add_lit, Nat.zero_add, hg.cell]
        simpa using hj
      case c2 => intro u hu; simp at hu; rcases hu with rfl | rfl | rfl | rfl <;> rfl
      intro w2 hown2 hgrow2
      have hbel2 : Below w.heap.size w w2 := (hbel.alloc hbel.size _).grown hgrow2 (by simp; have := hbel.size; omega) (by simp)
      rw [pack4_cells t htk, HT.out, ← packed_step l k hlt, show 4 * k + 4 = 4 * (k + 1) from rfl] at hown2
      clear hown hbel hgrow2
      go_wp2
      go_roundw
      case rel => exact ⟨k + 1, by omega, by go_num, rfl, hown2, hbel2⟩
      case measure => simp [intOf]; omega
    · have hk' : k = l.length := by omega
      subst hk'
      rw [List.take_length] at hown
      have hcv := run_string_own hown
      clear hc
      go_wp2
      go_ret
      exact ⟨rfl, hbel⟩
end Go.Proofs.YtobhpclemmhpoaaGreatDoor

namespace Go.Proofs.YtobhpclemmhpoaaGreatDoor
open Go.RowKit

set_option maxRecDepth 100000 in
theorem slClone_any (s : ByteArray) (w : World) (hs : s.size ≤ 1048576) : Calls Tryz.prog 92 #[.string s] w fun e w' => e = .returned (.string s) ∧ Below w.heap.size w w' := by
  by_cases h0 : s.size = 0
  · obtain rfl : s = ⟨#[]⟩ := ByteArray.ext (Array.eq_empty_of_size_eq_zero h0)
    go_enter Tryz.func92, Tryz.ntmps92
    go_wp2
    go_ret
    exact ⟨rfl, Below.refl _ _⟩
  · obtain ⟨i0, hi, hz0, hz1, hz2⟩ := info_parts info_u8
    have hinfo : (Tryz.prog.info? 5).map (·.size) = some 1 := by rw [hi]; simp [hz1]
    have hco : Tryz.prog.cellsOf 5 = 1 := by simp [Program.cellsOf, hi, hz1]
    obtain ⟨M, hM⟩ : ∃ M, M = madeCells (Value.int .u8 0).cells (((s.size : Nat) : Int).toNat * i0.size) := ⟨_, rfl⟩
    have hMs : M.size = s.size := by rw [hM, size_madeCells, hz1]; simp
    have hmk : ∀ W : World, (Instr.makeSlice 71 (.int .i64 (s.size : Int)) (.int .i64 (s.size : Int))).run Tryz.prog W = .ok (.slice (some ⟨W.heap.size, 0, none⟩) s.size s.size) (W.alloc (.cells M 5)) := fun W => by
      have h := run_make (P := Tryz.prog) W 71 5 i0 (.int .u8 0) Tryz.underlying71 hi hz0 .i64 .i64 (s.size : Int) (s.size : Int) (by omega) (by omega) (by rw [hz2]; omega) (by omega)
      rw [← hM] at h
      simpa using h
    clear hM
    have hcp := Lib.run_copy_row_string (P := Tryz.prog) (w.alloc (.cells M 5)) 71 9 3 5 w.heap.size 0 s.size s.size s M 5 Tryz.underlying71 hinfo (heap_alloc_new w _) (Nat.le_refl _) (by omega)
    obtain ⟨Y, hY⟩ : ∃ Y, Y = (M.toList.take 0 ++ Lib.byteCells s.data.toList ++ M.toList.drop (0 + s.size)).toArray := ⟨_, rfl⟩
    rw [← hY] at hcp
    have hYl : Y.toList = Lib.byteCells s.data.toList := by
      rw [hY, List.toList_toArray, List.take_zero, List.nil_append, List.drop_of_length_le (by rw [Array.length_toList]; omega), List.append_nil]
    have hYs : Y.size = s.size := by rw [← Array.length_toList, hYl, Lib.byteCells_length, ← Lib.size_eq]
    have hgY : ((w.alloc (.cells M 5)).setRow w.heap.size Y).heap[w.heap.size]? = some (.cells Y 5 (0, 0)) := setRow_heap _ _ M _ 5 (0, 0) (heap_alloc_new w _)
    have hne : s.data.toList ≠ [] := fun e => h0 (by rw [Lib.size_eq, e]; rfl)
    have hUS := Lib.run_unsafeString_row (P := Tryz.prog) ((w.alloc (.cells M 5)).setRow w.heap.size Y) 150 3 9 5 Tryz.underlying150 hco w.heap.size Y.size (by unfold World.shape?; rw [hgY]) s.data.toList hne (by rw [← Lib.size_eq]; omega) (by rw [← Lib.size_eq]; omega)
      (fun j x hx => Lib.cells_of_row hgY Y.size j _ (by rw [List.take_of_length_le (by rw [Array.length_toList]; exact Nat.le_refl _), hYl]; simp [Lib.byteCells, hx]))
    rw [← Lib.size_eq] at hUS
    clear hY
    go_enter Tryz.func92, Tryz.ntmps92
    go_wp2
    go_ret
    have hb1 : Below w.heap.size w (w.alloc (.cells M 5)) := (Below.refl _ w).alloc (Nat.le_refl _) _
    have hb2 : Below w.heap.size (w.alloc (.cells M 5)) ((w.alloc (.cells M 5)).setRow w.heap.size Y) := ⟨rfl, rfl, rfl, by simp, fun k hk => setRow_other _ _ _ _ (by omega)⟩
    exact ⟨rfl, Lib.below_freeze (hb1.trans hb2) (p := ⟨w.heap.size, 0, none⟩) (Nat.le_refl _) _⟩

theorem Clone_any (s : ByteArray) (w : World) (hs : s.size ≤ 1048576) : Calls Tryz.prog 83 #[.string s] w fun e w' => e = .returned (.string s) ∧ Below w.heap.size w w' := by
  go_enter Tryz.func83, Tryz.ntmps83
  go_wp2_with (go_at_call 92; refine (slClone_any _ _ hs).mono ?_; rintro e w' ⟨rfl, hb⟩)
  go_ret
  exact ⟨rfl, hb⟩
end Go.Proofs.YtobhpclemmhpoaaGreatDoor

namespace Go.Proofs.YtobhpclemmhpoaaGreatDoor
open Go.RowKit

/-- What the walks read off an arena: the two cells of its block, and each term's cells. -/
theorem ArenaAt.read {B A : Nat} {L : List Ent} {F : Nat → Prop} {w : World} (h : ArenaAt B A L F w) :
    ∃ ao cap mb, w.cell? ⟨A, 0, none⟩ = some (.slice ao L.length cap) ∧ w.cell? ⟨A, 1, none⟩ = some (.map (some mb)) ∧ L.length ≤ 1073741824 ∧
      ∀ i e, L[i]? = some e → ∃ g, ao = some ⟨g, 0, none⟩ ∧ ∀ j u, e.cells[j]? = some u → w.cell? ⟨g, i * 6 + j, none⟩ = some u := by
  obtain ⟨mb, tv, h1, h2, h3, h4, h5, h6, rfl⟩ := h
  have c0 := h1.cell 0
  have c1 := h1.cell 1
  rcases h2.2 with ⟨rfl, h0⟩ | ⟨g, cap, cur, rfl, hb, hg, rest⟩
  · have hL : L = [] := List.eq_nil_of_length_eq_zero h0
    subst hL
    exact ⟨none, 0, mb, c0, c1, h6.len, fun i e he => by simp at he⟩
  · refine ⟨_, cap, mb, c0, c1, h6.len, fun i e he => ⟨g, rfl, fun j u hu => ?_⟩⟩
    have hj : j < 6 := (List.getElem?_eq_some_iff.1 hu).1
    have := h2.cells (g := g) rfl (i * 6 + j) u (by rw [cellsOf_get L i j e he hj, hu])
    rw [Addr.add_lit, Nat.zero_add] at this
    exact this

theorem has_yes {B A : Nat} {L : List Ent} {F : Nat → Prop} {w : World} (h : ArenaAt B A L F w) (i : Nat) (hi : i < L.length) :
    Calls Tryz.prog 39 #[.pointer (some ⟨A, 0, none⟩), .int .i64 i] w fun e w' => e = .returned (.bool true) ∧ w = w' := by
  obtain ⟨ao, cap, mb, c0, _, hlen, _⟩ := h.read
  clear h
  go_enter Tryz.func39, Tryz.ntmps39
  go_wp2
  go_ret
  exact ⟨rfl, rfl⟩

theorem has_no {B A : Nat} {L : List Ent} {F : Nat → Prop} {w : World} (h : ArenaAt B A L F w) (i : Int) (hi : i < 0 ∨ L.length ≤ i) :
    Calls Tryz.prog 39 #[.pointer (some ⟨A, 0, none⟩), .int .i64 i] w fun e w' => e = .returned (.bool false) ∧ w = w' := by
  obtain ⟨ao, cap, mb, c0, _, hlen, _⟩ := h.read
  clear h
  by_cases h0 : i < 0
  · go_enter Tryz.func39, Tryz.ntmps39
    go_wp2
    go_ret
    exact ⟨rfl, rfl⟩
  · have h1 : (L.length : Int) ≤ i := by omega
    have hd : decide (i < (L.length : Int)) = false := by simp; omega
    go_enter Tryz.func39, Tryz.ntmps39
    go_wp2
    go_ret
    exact ⟨rfl, rfl⟩

/-- The n-th term, if there is one. -/
def at_ (L : List Ent) (i : Int) : Option Ent := if 0 ≤ i then L[i.toNat]? else none
theorem at_nat (L : List Ent) (i : Nat) : at_ L (i : Int) = L[i]? := by simp [at_]
theorem at_no {L : List Ent} {i : Int} (hi : i < 0 ∨ L.length ≤ i) : at_ L i = none := by
  unfold at_
  split
  · rw [List.getElem?_eq_none]; omega
  · rfl
def kindAt (L : List Ent) (i : Int) : Int := ((at_ L i).map (·.sh.kind)).getD 0
def sizeAt (L : List Ent) (i : Int) : Int := ((at_ L i).map (·.size)).getD 0

theorem Kind_any {B A : Nat} {L : List Ent} {F : Nat → Prop} {w : World} (h : ArenaAt B A L F w) (i : Int) :
    Calls Tryz.prog 63 #[.pointer (some ⟨A, 0, none⟩), .int .i64 i] w fun e w' => e = .returned (.int .i64 (kindAt L i)) ∧ w = w' := by
  by_cases hi : i < 0 ∨ L.length ≤ i
  · have hk : kindAt L i = 0 := by simp [kindAt, at_no hi]
    rw [hk]
    clear hk
    have HI := Lib.hid hi
    clear hi
    go_enter Tryz.func63, Tryz.ntmps63
    go_wp2_with (go_at_call 39; refine (has_no h _ HI.out).mono ?_; rintro e w' ⟨rfl, rfl⟩)
    go_ret
    exact ⟨rfl, rfl⟩
  · obtain ⟨n, rfl⟩ : ∃ n : Nat, i = n := ⟨i.toNat, by omega⟩
    have hn : n < L.length := by omega
    clear hi
    obtain ⟨ao, cap, mb, c0, _, hlen, hcells⟩ := h.read
    obtain ⟨g, rfl, hc⟩ := hcells n L[n] (List.getElem?_eq_getElem hn)
    have hcell : w.cell? ⟨g, n * 6, none⟩ = _ := hc 0 _ rfl
    have hk : kindAt L n = (L[n].sh.kind : Int) := by simp [kindAt, at_nat, hn]
    rw [hk]
    obtain ⟨kd, hkd⟩ : ∃ kd, kd = L[n].sh.kind := ⟨_, rfl⟩
    rw [← hkd] at hcell ⊢
    clear hcells hc hk hkd
    go_enter Tryz.func63, Tryz.ntmps63
    go_wp2_with (go_at_call 39; refine (has_yes h _ hn).mono ?_; rintro e w' ⟨rfl, rfl⟩)
    go_ret
    exact ⟨rfl, rfl⟩

theorem Size_any {B A : Nat} {L : List Ent} {F : Nat → Prop} {w : World} (h : ArenaAt B A L F w) (i : Int) :
    Calls Tryz.prog 23 #[.pointer (some ⟨A, 0, none⟩), .int .i64 i] w fun e w' => e = .returned (.int .i64 (sizeAt L i)) ∧ w = w' := by
  by_cases hi : i < 0 ∨ L.length ≤ i
  · have hk : sizeAt L i = 0 := by simp [sizeAt, at_no hi]
    rw [hk]
    clear hk
    have HI := Lib.hid hi
    clear hi
    go_enter Tryz.func23, Tryz.ntmps23
    go_wp2_with (go_at_call 39; refine (has_no h _ HI.out).mono ?_; rintro e w' ⟨rfl, rfl⟩)
    go_ret
    exact ⟨rfl, rfl⟩
  · obtain ⟨n, rfl⟩ : ∃ n : Nat, i = n := ⟨i.toNat, by omega⟩
    have hn : n < L.length := by omega
    clear hi
    obtain ⟨ao, cap, mb, c0, _, hlen, hcells⟩ := h.read
    obtain ⟨g, rfl, hc⟩ := hcells n L[n] (List.getElem?_eq_getElem hn)
    have hcell := hc 5 _ rfl
    have hk : sizeAt L n = (L[n].size : Int) := by simp [sizeAt, at_nat, hn]
    rw [hk]
    obtain ⟨kd, hkd⟩ : ∃ kd, kd = L[n].size := ⟨_, rfl⟩
    rw [← hkd] at hcell ⊢
    clear hcells hc hk hkd
    go_enter Tryz.func23, Tryz.ntmps23
    go_wp2_with (go_at_call 39; refine (has_yes h _ hn).mono ?_; rintro e w' ⟨rfl, rfl⟩)
    go_ret
    exact ⟨rfl, rfl⟩

theorem New_any (w : World) : Calls Tryz.prog 8 #[] w fun e w' => ∃ A F, e = .returned (.pointer (some ⟨A, 0, none⟩)) ∧ ArenaAt w.heap.size A [] F w' ∧ Below w.heap.size w w' := by
  have hmm := @run_makeMap Tryz.prog
  go_enter Tryz.func8, Tryz.ntmps8
  go_wp2
  go_ret
  have h1 := Holds.new (w.alloc (.map #[] 0)) 66 #[.slice none 0 0, .map (some w.heap.size)]
  rw [World.size_alloc] at h1
  refine ⟨_, _, rfl, ⟨w.heap.size, .slice none 0 0, h1, ⟨rfl, .inl ⟨rfl, rfl⟩⟩, ?_, by omega, Nat.le_refl _, ⟨by simp, by simp, by simp, by simp⟩, rfl⟩, ((Below.refl _ _).alloc (Nat.le_refl _) _).alloc (by simp) _⟩
  rw [Below.heap_alloc _ _ _ (by simp)]
  exact (MapKept.heap_alloc w _).1
end Go.Proofs.YtobhpclemmhpoaaGreatDoor
