/- The arena's map: what a lookup and a store do on the block that holds one entry for each term, in the terms' order. -/
import Derived.Test.YtemhifeddejkjaaBase
import Derived.Maps.Keyed
import Derived.DeepKeys4
import Derived.WideKeyMaps2
import Derived.KernelRfl
namespace Go.Proofs.Ytemhifeddejkjaa
open Go.RowKit Go.Maps
theorem keyOf_five {P : Program} {k ti ts : TypeId} {f0 f1 f2 f3 f4 : Field} (hk : P.underlying k = some (.struct #[f0, f1, f2, f3, f4])) (hi : P.underlying ti = some (.int .i64)) (hs : P.underlying ts = some .string)
    (hc : P.cellsOf k = 5) (ci : P.cellsOf ti = 1) (cs : P.cellsOf ts = 1) (kt : P.keyType k = true) (hsz : ∃ m, P.types.size = m + 1)
    (h0 : f0.type = ti ∧ f0.offset = 0) (h1 : f1.type = ti ∧ f1.offset = 1) (h2 : f2.type = ti ∧ f2.offset = 2) (h3 : f3.type = ts ∧ f3.offset = 3) (h4 : f4.type = ts ∧ f4.offset = 4)
    (hn : (#[f0, f1, f2, f3, f4] : Array Field).all (·.name != "_") = true)
    {a b c : Int} {x y : ByteArray} (wa : (Lit.int .i64 a).wf = true) (wb : (Lit.int .i64 b).wf = true) (wc : (Lit.int .i64 c).wf = true) (wx : x.size ≤ maxLen) (wy : y.size ≤ maxLen) :
    ∃ l, keyOf P k (.agg #[.int .i64 a, .int .i64 b, .int .i64 c, .string x, .string y]) = some l := by
  obtain ⟨m, hm⟩ := hsz
  have hf : (Value.agg #[.int .i64 a, .int .i64 b, .int .i64 c, .string x, .string y]).formed P k = true := by simp [Value.formed, hk, hc]
  have lit : ∀ n : Int, (Lit.int .i64 n).wf = true → P.keyLits (m + 1) ti [.int .i64 n] = some [.int .i64 n] := fun n hn => by simp [Program.keyLits, hi, hn]
  have str : ∀ s : ByteArray, s.size ≤ maxLen → P.keyLits (m + 1) ts [.string s] = some [.string s.data.toList] := fun s hn => by simp [Program.keyLits, hs, hn]
  have all : P.keyLits (m + 2) k [.int .i64 a, .int .i64 b, .int .i64 c, .string x, .string y] = some [.int .i64 a, .int .i64 b, .int .i64 c, .string x.data.toList, .string y.data.toList] := by
    unfold Program.keyLits
    rw [hk]
    simp only [List.length_cons, List.length_nil, hc, hn]
    simp only [List.mapM_cons, List.mapM_nil, h0, h1, h2, h3, h4, ci, cs, List.drop_zero, List.drop_succ_cons, List.take_succ_cons, List.take_zero, lit _ wa, lit _ wb, lit _ wc, str _ wx, str _ wy]
    rfl
  unfold keyOf
  rw [hk]
  simp only [kt, hf, hm]
  exact ⟨_, by rw [show (Value.agg #[.int .i64 a, .int .i64 b, .int .i64 c, .string x, .string y]).cells.toList = [.int .i64 a, .int .i64 b, .int .i64 c, .string x, .string y] from rfl, all]; rfl⟩

theorem laidOut : laidOutB Try.prog = true := by kernel_rfl
theorem rowShape : (69 : TypeId) < Try.prog.types.size := of_decide_eq_true (by kernel_rfl)
theorem deepShape : Try.prog.keyTypeAt 2 69 = true := by kernel_rfl
theorem lawK : Keyed Try.prog 69 := Keyed.of_law (deep_law_laid laidOut (m := 2) (by omega) rowShape deepShape (by rw [Try.underlying69]))
theorem cellsShape : Try.prog.cellsOf 69 = 5 := by kernel_rfl
theorem cellsInt : Try.prog.cellsOf 3 = 1 := by kernel_rfl
theorem cellsStr : Try.prog.cellsOf 9 = 1 := by kernel_rfl
theorem keyTypeShape : Try.prog.keyType 69 = true := by kernel_rfl
theorem wf_nat {n : Nat} (h : n ≤ 4294967295) : (Lit.int .i64 (n : Int)).wf = true := WalkArith.wf_i64 (by omega)
theorem succ_of {a k : Nat} (h : k < a) : ∃ n, a = n + 1 := ⟨a - 1, by omega⟩
theorem types_succ : ∃ n, Try.prog.types.size = n + 1 := succ_of rowShape
theorem keyOf_shape {sh : Shp} {n : Nat} (h : sh.Ok n) : ∃ l, keyOf Try.prog 69 sh.key = some l :=
  keyOf_five Try.underlying69 Try.underlying3 Try.underlying9 cellsShape cellsInt cellsStr keyTypeShape types_succ ⟨rfl, rfl⟩ ⟨rfl, rfl⟩ ⟨rfl, rfl⟩ ⟨rfl, rfl⟩ ⟨rfl, rfl⟩ (by kernel_rfl)
    (wf_nat (by have := h.kind; omega)) (wf_nat h.a) (wf_nat h.b) (by have := h.s; unfold maxLen; omega) (by have := h.many; rw [packB_size]; unfold maxLen; omega)

theorem ents_keys {L : List Ent} (hL : Wf L) : ∀ e ∈ (entsOf L).toArray.toList, ∃ l, keyOf Try.prog 69 e.key = some l := by
  intro e he
  obtain ⟨i, hi⟩ := List.mem_iff_getElem?.1 he
  rw [List.toList_toArray, entsOf_get] at hi
  cases hx : L[i]? with
  | none => simp [hx] at hi
  | some x =>
    simp [hx] at hi
    subst hi
    exact keyOf_shape (hL.ok i x hx)

theorem find_in {L : List Ent} (hL : Wf L) {sh : Shp} (hs : sh.Ok L.length) (w : World) :
    (Instr.findKey 69 sh.key (entsOf L)).run Try.prog w = .ok ((idx L sh).map fun i => (i, Value.int .i64 i)) w := by
  obtain ⟨l, hl⟩ := keyOf_shape hs
  have hlen := hL.len
  rcases lawK.find w hl (entsOf L) (by simpa using ents_keys hL) with ⟨h1, h2⟩ | ⟨j, e, h1, h2, h3⟩
  · have : idx L sh = none := by
      cases hx : idx L sh with
      | none => rfl
      | some i =>
        obtain ⟨e, he, hsh⟩ := idx_some hx
        exact absurd (by show e.sh.key = sh.key; rw [hsh]) (h2 (entOf i e) (List.mem_of_getElem? (by rw [entsOf_get, he]; rfl)))
    rw [h1, this]
    rfl
  · rw [entsOf_get] at h2
    cases hx : L[j]? with
    | none => simp [hx] at h2
    | some x =>
      simp [hx] at h2
      subst h2
      have hj : j < L.length := (List.getElem?_eq_some_iff.1 hx).1
      have hsh : x.sh = sh := Shp.key_inj (hL.ok j x hx) hs (by omega) (by omega) h3
      have : idx L sh = some j := by rw [← hsh]; exact idx_of hL.apart hx
      rw [h1, this]
      rfl

theorem empty_zero (w : World) : (zeroValue 33).run Try.prog w = .ok (.int .i64 0) w := by kernel_rfl

theorem run_lookup {L : List Ent} (hL : Wf L) {sh : Shp} (hs : sh.Ok L.length) {w : World} {mb c : Nat} (hb : w.heap[mb]? = some (.map (entsOf L).toArray c)) :
    (Instr.lookup 55 (.map (some mb)) sh.key true).run Try.prog w = .ok (.tuple #[.int .i64 ((idx L sh).getD 0 : Nat), .bool (idx L sh).isSome]) w := by
  obtain ⟨l, hl⟩ := keyOf_shape hs
  have hf := find_in hL hs w
  have hc := lawK.check w (entsOf L).toArray.isEmpty hl
  simp only [List.isEmpty_toArray] at hc
  cases hx : idx L sh with
  | none =>
    rw [hx] at hf
    simp [Instr.lookup, run_underlying Try.underlying55, MapKept.run_getObj_map hb, hc, hf, Result.andThen]
  | some i =>
    rw [hx] at hf
    simp [Instr.lookup, run_underlying Try.underlying55, MapKept.run_getObj_map hb, hc, hf, Result.andThen]

theorem run_put {L : List Ent} (hL : Wf L) {sh : Shp} (hs : sh.Ok L.length) (hn : idx L sh = none) {w : World} {mb : Nat} (hb : w.heap[mb]? = some (.map (entsOf L).toArray L.length)) (size : Nat) :
    (Instr.mapUpdate 55 (.map (some mb)) sh.key (.int .i64 (L.length : Nat))).run Try.prog w = .ok () { w with heap := w.heap.setIfInBounds mb (.map (entsOf (L ++ [⟨sh, size⟩])).toArray (L.length + 1)) } := by
  obtain ⟨l, hl⟩ := keyOf_shape hs
  have hf := find_in hL hs w
  rw [hn] at hf
  simp [Instr.mapUpdate, run_underlying Try.underlying55, MapKept.run_getObj_map hb, lawK.check w false hl, hf, MapKept.run_setObj_map _ hb, Result.andThen, entsOf_snoc, entOf]
end Go.Proofs.Ytemhifeddejkjaa
