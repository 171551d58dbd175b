/- Part 20 of what the statement wants. -/
import Derived.Deep.RegionHeld3
import Derived.LoopTactic
import Derived.Test.YtobhpclemmhpoaaGreatDoorPk00
import Derived.Test.YtobhpclemmhpoaaGreatDoorPk07
import Derived.Test.YtobhpclemmhpoaaGreatDoorPk11
import Derived.Test.YtobhpclemmhpoaaGreatDoorPk15
import Derived.Test.YtobhpclemmhpoaaGreatDoorPk19
namespace Go.Proofs.YtobhpclemmhpoaaGreatDoor
open Go.RowKit

/-- Rows that are no part of an arena stay as they are. -/
structure Kept (W w' : World) : Prop where
  size : W.heap.size ≤ w'.heap.size
  hold : ∀ (g : Nat) (t : TypeId) (cs : Array Value), t ≠ 66 → t ≠ 90 → Holds W g t cs → Holds w' g t cs
theorem Kept.refl (W : World) : Kept W W := ⟨Nat.le_refl _, fun _ _ _ _ _ h => h⟩
theorem Kept.trans {a b c : World} (h : Kept a b) (k : Kept b c) : Kept a c := ⟨Nat.le_trans h.size k.size, fun g t cs h1 h2 h3 => k.hold g t cs h1 h2 (h.hold g t cs h1 h2 h3)⟩
theorem Kept.ofBelow {a b : World} (h : Below a.heap.size a b) : Kept a b := ⟨h.size, fun _ _ _ _ _ h3 => (h.block _ h3.lt).trans h3⟩
theorem Kept.ofMoves {a b : World} {B A : Nat} {L : List Ent} {F : Nat → Prop} (ha : ArenaAt B A L F a) (h : Moves F a b) : Kept a b := ⟨h.size, fun _ _ _ h1 h2 h3 => h3.moves h (arena_ne ha h3 h1 h2)⟩

/-- The arena at A grew from w0 on; the numbers stand beside the texts of their terms; it has at most n terms. -/
structure Ta (B : Nat) (w0 : World) (A : Nat) (P : List (Int × List UInt8)) (n : Nat) (W : World) : Prop where
  ar : ∃ L F, ArenaAt B A L F W ∧ Good L ∧ L.length ≤ n ∧ ∀ p ∈ P, TAt L p.1 p.2
  bel : Below B w0 W
section
variable {B A n : Nat} {w0 W : World} {P : List (Int × List UInt8)}
theorem Ta.lt (h : Ta B w0 A P n W) : B < W.heap.size := by
  obtain ⟨⟨L, F, ha, _⟩, _⟩ := h
  have := ha.lt A ha.self
  omega
theorem Ta.below {W' : World} (h : Ta B w0 A P n W) (hb : Below W.heap.size W W') : Ta B w0 A P n W' := by
  have hl := h.lt
  obtain ⟨⟨L, F, ha, h1⟩, h2⟩ := h
  exact ⟨⟨L, F, ha.below hb, h1⟩, h2.trans (hb.mono (Nat.le_of_lt hl))⟩
theorem Ta.drew (h : Ta B w0 A P n W) : Ta B w0 A P n W.drew := h.below (Below.refl _ _).drew
theorem Ta.alloc (h : Ta B w0 A P n W) (o : Obj) : Ta B w0 A P n (W.alloc o) := h.below ((Below.refl _ _).alloc (Nat.le_refl _) o)
/-- A store into a row that is no part of the arena. -/
theorem Ta.set (h : Ta B w0 A P n W) {g : Nat} {t : TypeId} {cs : Array Value} (hg : Holds W g t cs) (h1 : t ≠ 66) (h2 : t ≠ 90) (hB : B ≤ g) (i : Nat) (v : Value) : Ta B w0 A P n (W.setCell ⟨g, i, none⟩ v) := by
  obtain ⟨⟨L, F, ha, h3⟩, h4⟩ := h
  have hn := arena_ne ha hg h1 h2
  exact ⟨⟨L, F, ha.moves ((Moves.refl (fun k => k = g) W).setCell (p := ⟨g, i, none⟩) (.inl rfl) v) (fun k hk e => hn (e ▸ hk)), h3⟩, h4.setCell (p := ⟨g, i, none⟩) hB v⟩
theorem Ta.mono {Q : List (Int × List UInt8)} {m : Nat} (h : Ta B w0 A P n W) (hn : n ≤ m) (hQ : ∀ p ∈ Q, p ∈ P) : Ta B w0 A Q m W := by
  obtain ⟨⟨L, F, ha, h1, h2, h3⟩, h4⟩ := h
  exact ⟨⟨L, F, ha, h1, Nat.le_trans h2 hn, fun p hp => h3 p (hQ p hp)⟩, h4⟩
theorem Ta.cons {p : Int × List UInt8} (h : Ta B w0 A P n W) (hp : p ∈ P ∨ p = (-1, [])) : Ta B w0 A (p :: P) n W := by
  obtain ⟨⟨L, F, ha, h1, h2, h3⟩, h4⟩ := h
  refine ⟨⟨L, F, ha, h1, h2, fun q hq => ?_⟩, h4⟩
  rcases List.mem_cons.1 hq with rfl | hq
  · rcases hp with hp | rfl
    · exact h3 _ hp
    · exact .inl ⟨rfl, rfl⟩
  · exact h3 q hq
theorem Ta.same (h : Ta B w0 A P n W) {i j : Int} {t u : List UInt8} (h1 : (i, t) ∈ P) (h2 : (j, u) ∈ P) : i = j ↔ t = u := by
  obtain ⟨⟨L, F, ha, hG, _, h3⟩, _⟩ := h
  exact (h3 _ h1).same hG (h3 _ h2)
theorem Ta.none (h : Ta B w0 A P n W) {i : Int} {t : List UInt8} (h1 : (i, t) ∈ P) : i = -1 ↔ t = [] := by
  obtain ⟨⟨L, F, ha, hG, _, h3⟩, _⟩ := h
  exact (h3 _ h1).none_iff hG
theorem Ta.short (h : Ta B w0 A P n W) {i : Int} {t : List UInt8} (h1 : (i, t) ∈ P) : t.length ≤ 131072 := by
  obtain ⟨⟨L, F, ha, hG, _, h3⟩, _⟩ := h
  exact (h3 _ h1).short hG
theorem Ta.nine (h : Ta B w0 A P n W) {i : Int} {t : List UInt8} (h1 : (i, t) ∈ P) : t.length ≤ 10000 ∨ kindL t ≠ 2 := by
  obtain ⟨⟨L, F, ha, hG, _, h3⟩, _⟩ := h
  exact (h3 _ h1).nine hG
theorem Ta.raisable (h : Ta B w0 A P n W) {i : Int} {t : List UInt8} (h1 : (i, t) ∈ P) : Raisable t := by
  obtain ⟨⟨L, F, ha, hG, _, h3⟩, _⟩ := h
  exact (h3 _ h1).raisable hG
/-- What a text is, that stands beside a number. -/
theorem Ta.text (h : Ta B w0 A P n W) {i : Int} {t : List UInt8} (h1 : (i, t) ∈ P) : t = [] ∨ ∃ (L : List Ent) (k : Nat), Good L ∧ k < L.length ∧ t = enc L k ∧ L.length ≤ n := by
  obtain ⟨⟨L, F, ha, hG, hl, h3⟩, _⟩ := h
  rcases h3 _ h1 with ⟨_, h⟩ | ⟨k, _, h4, h5⟩
  · exact .inl h
  · exact .inr ⟨L, k, hG, h4, h5, hl⟩

/-- What a call that makes terms leaves: the number of the term with the text t, of k terms more at most. -/
abbrev TaPost (B : Nat) (w0 : World) (A : Nat) (P : List (Int × List UInt8)) (n : Nat) (W : World) (t : List UInt8) (r : Ending) (w' : World) : Prop :=
  ∃ i : Int, r = .returned (.int .i64 i) ∧ Ta B w0 A ((i, t) :: P) n w' ∧ Kept W w'
theorem Ta.makes (h : Ta B w0 A P n W) {f : FuncId} {args : Array Value} {t : List UInt8} (hc : ∀ L F, ArenaAt B A L F W → Good L → L.length ≤ n → (∀ p ∈ P, TAt L p.1 p.2) → Calls Tryz.prog f args W fun r w' => ∃ m, Same L m t ∧ Makes B A F W m r w') :
    Calls Tryz.prog f args W (TaPost B w0 A P (n + 1) W t) := by
  obtain ⟨⟨L, F, ha, hG, hl, h3⟩, h4⟩ := h
  refine (hc L F ha hG hl h3).mono fun r w' ⟨m, hs, hm⟩ => ?_
  obtain ⟨h5, F', h6, h7⟩ := hm.out ha
  have hmv : Moves F W w' := Left.moves hm.2
  have hmore := hs.more
  refine ⟨m.1, h5, ⟨⟨m.2, F', h6, hs.good, by omega, fun p hp => ?_⟩, h4.trans h7⟩, Kept.ofMoves ha hmv⟩
  rcases List.mem_cons.1 hp with rfl | hp
  · exact hs.is
  · exact (h3 p hp).pre hs.good hs.pre
theorem taData (h : Ta B w0 A P n W) (hn : n ≤ 100000) (s : List UInt8) (hs : s.length ≤ 1000000) : Calls Tryz.prog 41 #[.pointer (some ⟨A, 0, none⟩), .string (bs s)] W (TaPost B w0 A P (n + 1) W (refDataL s)) :=
  h.makes fun L F ha hG hl _ => (Data_any ha (by omega) (bs s) (by rw [bs_size]; omega)).mono fun r w' hm => ⟨_, data_same hG (by omega) s, hm⟩
theorem taKey (h : Ta B w0 A P n W) (hn : n ≤ 100000) (x : Int) : Calls Tryz.prog 18 #[.pointer (some ⟨A, 0, none⟩), .int .i64 x] W (TaPost B w0 A P (n + 1) W (refKeyL x)) :=
  h.makes fun L F ha hG hl _ => (Key_any ha (by omega) x).mono fun r w' hm => ⟨_, key_same hG (by omega) x, hm⟩
theorem taHash (h : Ta B w0 A P n W) (hn : n ≤ 100000) {i : Int} {t : List UInt8} (h1 : (i, t) ∈ P) : Calls Tryz.prog 34 #[.pointer (some ⟨A, 0, none⟩), .int .i64 i] W (TaPost B w0 A P (n + 1) W (refHashL t)) :=
  h.makes fun L F ha hG hl h3 => (Hash_any ha (by omega) i).mono fun r w' hm => ⟨_, hash_same hG (by omega) (h3 _ h1), hm⟩
theorem taList (h : Ta B w0 A P n W) (hn : n ≤ 100000) {v : Value} (Q : List (Int × List UInt8)) (hv : IdsAt W v (Q.map (·.1))) (hq : Q.length ≤ 65536) (hQ : ∀ q ∈ Q, q ∈ P) : Calls Tryz.prog 29 #[.pointer (some ⟨A, 0, none⟩), v] W (TaPost B w0 A P (n + 1) W (refListL (Q.map (·.2)))) :=
  h.makes fun L F ha hG hl h3 => (List_any ha (by omega) hv (by simpa using hq)).mono fun r w' hm => ⟨_, list_same hG (by omega) (tats_of _ _ (by simp) fun k i t h1 h2 => by
    rw [List.getElem?_map, Option.map_eq_some_iff] at h1 h2
    obtain ⟨q, hq1, rfl⟩ := h1
    obtain ⟨q', hq2, rfl⟩ := h2
    rw [hq1] at hq2
    injection hq2 with hq2
    subst hq2
    exact h3 _ (hQ _ (List.mem_of_getElem? hq1))), hm⟩
theorem taKind (h : Ta B w0 A P n W) {i : Int} {t : List UInt8} (h1 : (i, t) ∈ P) : Calls Tryz.prog 63 #[.pointer (some ⟨A, 0, none⟩), .int .i64 i] W fun e w' => e = .returned (.int .i64 (kindL t : Int)) ∧ W = w' := by
  obtain ⟨⟨L, F, ha, hG, _, h3⟩, _⟩ := h
  rw [← kind_tat hG (h3 _ h1)]
  exact Kind_any ha i
theorem taEncode (h : Ta B w0 A P n W) {i : Int} {t : List UInt8} (h1 : (i, t) ∈ P) : Calls Tryz.prog 11 #[.pointer (some ⟨A, 0, none⟩), .int .i64 i] W fun r w' => r = .returned (.string (bs t)) ∧ Below W.heap.size W w' := by
  obtain ⟨⟨L, F, ha, hG, _, h3⟩, _⟩ := h
  rcases h3 _ h1 with ⟨h4, h5⟩ | ⟨k, h4, h5, h6⟩
  · simp only at h4 h5
    rw [h4, h5]
    exact Encode_no ha (-1) (.inl (by omega))
  · simp only at h4 h6
    have he : L[k]? = some L[k] := List.getElem?_eq_getElem h5
    rw [h4, h6]
    refine Encode_any ha hG.encodable he ?_
    rw [enc_length hG k _ he]
    have := hG.wf.size _ (List.mem_of_getElem? he)
    omega
/-- What View tells of a text. -/
theorem taView (h : Ta B w0 A P n W) {i : Int} {t : List UInt8} (h1 : (i, t) ∈ P) : Calls Tryz.prog 19 #[.pointer (some ⟨A, 0, none⟩), .int .i64 i] W fun r w' => ∃ (a b : Nat) (s : List UInt8) (ao : Option Addr) (m c : Nat), r = .returned (.tuple #[.agg #[.int .i64 (kindL t : Int), .int .i64 a, .int .i64 b, .string (bs s), .slice ao m c], .bool (!t.isEmpty)]) ∧ (t ≠ [] → nodeOf t = ⟨kindL t, a, b, s, (nodeOf t).args⟩ ∧ m = (nodeOf t).args.length) ∧ m ≤ 65536 ∧ s.length ≤ 131072 ∧ Below W.heap.size W w' := by
  obtain ⟨⟨L, F, ha, hG, _, h3⟩, _⟩ := h
  rcases h3 _ h1 with ⟨h4, h5⟩ | ⟨k, h4, h5, h6⟩
  · simp only at h4 h5
    rw [h4, h5]
    refine (nView_no ha (-1) (.inl (by omega))).mono fun r w' ⟨h6, h7⟩ => ⟨0, 0, [], Option.none, 0, 0, ?_, fun hh => absurd rfl hh, by omega, by simp, h7⟩
    rw [h6]
    rfl
  · simp only at h4 h6
    have he : L[k]? = some L[k] := List.getElem?_eq_getElem h5
    have hok := hG.wf.ok k _ he
    have hk : kindL t = L[k].sh.kind := by rw [h6, hG.enc_eq he, kind_head (hG.sh k _ he)]
    have hne : t ≠ [] := by rw [h6]; exact enc_ne hG h5
    have hem : t.isEmpty = false := by cases t with
      | nil => exact absurd rfl hne
      | cons => rfl
    rw [h4]
    refine (View_some ha he).mono fun r w' ⟨g, h7, _, h8⟩ => ⟨L[k].sh.a, L[k].sh.b, L[k].sh.s.data.toList, some ⟨g, 0, Option.none⟩, L[k].sh.args.length, L[k].sh.args.length, ?_, fun _ => ?_, hok.many, ?_, h8⟩
    · rw [h7, hem, hk, bs_list]
      rfl
    · rw [h6, nodeOf_enc hG he, ← h6, hk]
      exact ⟨rfl, by simp [nodeSh]⟩
    · have := hok.s
      rw [s_len]
      exact this
end

/-- A new arena. -/
theorem taNew (w : World) : Calls Tryz.prog 8 #[] w fun e w' => ∃ A, e = .returned (.pointer (some ⟨A, 0, none⟩)) ∧ Ta w.heap.size w A [] 0 w' :=
  (New_any w).mono fun e w' ⟨A, F, h1, h2, h3⟩ => ⟨A, h1, ⟨[], F, h2, Good.nil, Nat.le_refl _, by simp⟩, h3⟩
theorem pick_in {ids : List Int} {texts : List (List UInt8)} (hl : ids.length = texts.length) (i : Int) : pickP ids texts i ∈ ids.zip texts ∨ pickP ids texts i = (-1, []) := by
  unfold pickP
  split
  · rename_i hh
    left
    have h1 : i.toNat < ids.length := by omega
    have h2 : i.toNat < texts.length := by omega
    refine List.mem_iff_getElem?.2 ⟨i.toNat, List.getElem?_zip_eq_some.2 ⟨?_, ?_⟩⟩
    · simp [List.getD, h1]
    · simp [List.getD, h2]
  · exact .inr rfl
end Go.Proofs.YtobhpclemmhpoaaGreatDoor

namespace Go.Proofs.YtobhpclemmhpoaaGreatDoor
open Go.RowKit

/-- The numbers beside the data's texts, the last one first. -/
def dataP (l : List (List UInt8)) (ids : List Int) : List (Int × List UInt8) := (ids.zip (l.map refDataL)).reverse
theorem dataP_snoc {l : List (List UInt8)} {ids : List Int} (h : ids.length = l.length) (x : List UInt8) (i : Int) : dataP (l ++ [x]) (ids ++ [i]) = (i, refDataL x) :: dataP l ids := by
  unfold dataP
  rw [List.map_append, List.zip_append (by simpa using h)]
  simp
section
variable {B A n : Nat} {w0 W : World} {P : List (Int × List UInt8)}
theorem owns_kept {w w' : World} {base m : Nat} {t : TypeId} {v : Value} {xs : List Value} (h : w.ownsRow base t 1 v m xs) (k : Kept w w') (h1 : t ≠ 66) (h2 : t ≠ 90) : w'.ownsRow base t 1 v m xs := by
  refine ⟨h.1, ?_⟩
  rcases h.2 with hn | ⟨g, cap, cur, rfl, hb, hg, rest⟩
  · exact .inl hn
  · exact .inr ⟨g, cap, cur, rfl, hb, k.hold g t cur h1 h2 hg, rest⟩
theorem Ta.pastRow {W2 : World} {base m : Nat} {u : Value} {xs : List Value} (h : Ta B w0 A P n W) (hr : W.ownsRow base 36 1 u m xs) (hB : B ≤ base) (mv : Moves (fun i => u.ownBlock = some i) W W2) : Ta B w0 A P n W2 := by
  obtain ⟨⟨L, F, ha, h3⟩, h4⟩ := h
  have hl := ha.lt A ha.self
  exact ⟨⟨L, F, ha.moves mv (fun k hk e => ha.ne_row hr (by decide) (by decide) k e hk), h3⟩, h4.trans (mv.below (by omega) (fun i e => Nat.le_trans hB (hr.lt i e).1))⟩
theorem Kept.pastRow {W0 W2 : World} {base m : Nat} {u : Value} {xs : List Value} (h : Kept W0 W) (hr : W.ownsRow base 36 1 u m xs) (hB : W0.heap.size ≤ base) (mv : Moves (fun i => u.ownBlock = some i) W W2) : Kept W0 W2 := by
  refine ⟨Nat.le_trans h.size mv.size, fun g t cs h1 h2 h3 => (h.hold g t cs h1 h2 h3).moves mv fun e => ?_⟩
  have := (hr.lt g e).1
  have := h3.lt
  omega
theorem Ta.grown {W2 : World} {base m : Nat} {u : Value} {xs : List Value} {o : Obj} (h : Ta B w0 A P n W) (hr : W.ownsRow base 36 1 u m xs) (hB : B ≤ base) (hg : (W.alloc o).grownBy W2 u.ownBlock) : Ta B w0 A P n W2 := by
  have mv : Moves (fun i => u.ownBlock = some i) W W2 := ((Moves.refl (fun i => u.ownBlock = some i) W).alloc o).grown hg (fun _ hi => .inl hi)
  obtain ⟨⟨L, F, ha, h3⟩, h4⟩ := h
  have hl := ha.lt A ha.self
  exact ⟨⟨L, F, ha.moves mv (fun k hk e => ha.ne_row hr (by decide) (by decide) k e hk), h3⟩, h4.trans (mv.below (by omega) (fun i e => Nat.le_trans hB (hr.lt i e).1))⟩
theorem Kept.grown {W0 W2 : World} {base m : Nat} {u : Value} {xs : List Value} {o : Obj} (h : Kept W0 W) (hr : W.ownsRow base 36 1 u m xs) (hB : W0.heap.size ≤ base) (hg : (W.alloc o).grownBy W2 u.ownBlock) : Kept W0 W2 := by
  have mv : Moves (fun i => u.ownBlock = some i) W W2 := ((Moves.refl (fun i => u.ownBlock = some i) W).alloc o).grown hg (fun _ hi => .inl hi)
  refine ⟨Nat.le_trans h.size mv.size, fun g t cs h1 h2 h3 => (h.hold g t cs h1 h2 h3).moves mv fun e => ?_⟩
  have := (hr.lt g e).1
  have := h3.lt
  omega
end
end Go.Proofs.YtobhpclemmhpoaaGreatDoor

namespace Go.Proofs.YtobhpclemmhpoaaGreatDoor
open Go.RowKit

section
variable {B A n : Nat} {w0 W : World} {P : List (Int × List UInt8)}
set_option maxHeartbeats 2000000 in
set_option maxRecDepth 100000 in
theorem xData_any (h : Ta B w0 A P n W) (hn : n ≤ 10000) {g : Nat} {l : List (List UInt8)} (hv : Holds W g 9 (l.map fun x => Value.string (bs x)).toArray) (hl : l.length ≤ 100) (hs : ∀ x ∈ l, x.length ≤ 1000000) :
    Calls Tryz.prog 27 #[.pointer (some ⟨A, 0, none⟩), .slice (some ⟨g, 0, none⟩) l.length l.length] W fun e w' => ∃ (ids : List Int) (vr : Value), e = .returned vr ∧ ids.length = l.length ∧ w'.ownsRow W.heap.size 36 1 vr ids.length (idCells ids) ∧ (ids = [] → vr = .slice none 0 0) ∧ Ta B w0 A (dataP l ids ++ P) (n + l.length) w' ∧ Kept W w' := by
  obtain ⟨j0, hj, hy0, hy1, hy2⟩ := info_parts info_id
  have hBW := Nat.le_of_lt h.lt
  have HT := Lib.hid h
  have HS := Lib.hid hs
  have HC : Hid (∀ (w' : World) (k : Nat) (x : List UInt8), Kept W w' → l[k]? = some x → w'.cell? ⟨g, k, none⟩ = some (.string (bs x))) := fun w' k x hk hx => by
    rw [(hk.hold _ _ _ (by decide) (by decide) hv).cell]
    simp [hx]
  clear h hs hv
  go_enter Tryz.func27, Tryz.ntmps27
  go_wp2_with fail
  go_loopw [5, 10] (fun u i wr => ∃ (k : Nat) (ids : List Int), k ≤ l.length ∧ i = .int .i64 (k : Int) ∧ ids.length = k ∧ wr.ownsRow W.heap.size 36 1 u k (idCells ids) ∧ (k = 0 → u = .slice none 0 0) ∧ Ta B w0 A (dataP (l.take k) ids ++ P) (n + k) wr ∧ Kept W wr) (fun _ i _ => l.length - (intOf i).toNat)
  case atStart => exact ⟨0, [], by omega, rfl, rfl, World.ownsRow_nil _ _ _ _, fun _ => rfl, HT.out, Kept.refl _⟩
  case round =>
    obtain ⟨k, ids, hk, rfl, hil, hrow, hnil, hta, hkp⟩ := hrel
    have hbs := hkp.size
    by_cases hlt : k < l.length
    · obtain ⟨x, hx⟩ : ∃ x, l[k]? = some x := ⟨_, List.getElem?_eq_getElem hlt⟩
      have y0 := HC.out wr k x hkp hx
      have hxl := HS.out x (List.mem_of_getElem? hx)
      have HD := Lib.hid (taData hta (by omega) x hxl)
      have hdp : ∀ i : Int, dataP (l.take (k + 1)) (ids ++ [i]) = (i, refDataL x) :: dataP (l.take k) ids := fun i => by
        have e : l.take (k + 1) = l.take k ++ [x] := by
          rw [List.take_succ_eq_append_getElem hlt]
          rw [List.getElem?_eq_getElem hlt] at hx
          rw [Option.some.inj hx]
        rw [e]
        exact dataP_snoc (by rw [hil, List.length_take]; omega) x i
      have HDP := Lib.hid hdp
      have q1 : decide ((k : Int) < (l.length : Int)) = true := decide_eq_true (by omega)
      have HKp := Lib.hid hkp
      obtain ⟨ao, nn, cc, rfl⟩ := row_slice hrow
      have hlo : (0 : Int) ≤ (k : Int) := by omega
      have hhi : (k : Int) < (l.length : Int) := by omega
      clear hx hxl hta hkp hdp hnil HC HS HT
      generalize refDataL x = D at *
      generalize bs x = X at *
      go_wp2_with (first
        | (go_at_call 41; (with_reducible refine HD.out.mono ?_); rintro e w2 ⟨i, rfl, t2, k2⟩; have hrow2 := owns_kept hrow k2 (by decide) (by decide); have hbs2 := k2.size; have K2 := Lib.hid k2; have T2 := Lib.hid t2; clear t2 k2)
        | (at_builtin; refine wpList_append_own _ rfl _ _ 44 rfl W.heap.size 36 j0 _ 1 8 Tryz.underlying44 hj hy0 hy1 hy2 rfl (by decide) _ _ _ rfl (hrow2.alloc _) ⟨w2.heap.size, 0, none⟩ 1 1 [.int .i64 i] rfl rfl (cell_one_new _ _ _) (id_one i) (by unfold maxLen; omega) (by omega) (by simp; omega) ?_; intro v' w3 hown' hg' hnil')
        | go_in)
      have t3 := T2.out.grown hrow2 hBW hg'
      have k3 := (HKp.out.trans K2.out).grown hrow2 (Nat.le_refl _) hg'
      have T3 := Lib.hid t3
      have K3 := Lib.hid k3
      clear t3 k3
      go_roundw
      case rel =>
        refine ⟨k + 1, ids ++ [i], by omega, by go_num, by simp [hil], ?_, fun e => by omega, ?_, K3.out⟩
        · rw [idCells_snoc]; exact hown'
        · rw [HDP.out]; exact T3.out
      case measure => simp [intOf]; omega
    · have hkl : k = l.length := by omega
      subst hkl
      rw [List.take_length] at hta
      obtain ⟨ao, nn, cc, rfl⟩ := row_slice hrow
      have HT2 := Lib.hid hta
      have HK2 := Lib.hid hkp
      have q1 : decide ((l.length : Int) < (l.length : Int)) = false := decide_eq_false (by omega)
      clear hta hkp HC HS HT hlt
      go_wp2_with fail
      go_ret
      refine ⟨ids, _, rfl, hil, by rw [hil]; exact hrow, fun e => hnil (by rw [← hil, e]; rfl), HT2.out, HK2.out⟩
end
end Go.Proofs.YtobhpclemmhpoaaGreatDoor

namespace Go.Proofs.YtobhpclemmhpoaaGreatDoor
open Go.RowKit

theorem wText_any (l : List UInt8) (hl : l.length ≤ 1000000) (w : World) : Calls Tryz.prog 82 #[.string (bs l)] w fun e w' => e = .returned (.string (bs (cnt l))) ∧ Below w.heap.size w w' := by
  have hsz := bs_size l
  have HE : Hid (bs (pack4 l.length) ++ bs l = bs (cnt l)) := bs_append _ _
  have hp : (bs (pack4 l.length)).size ≤ 4 := by rw [bs_size]; simp [pack4]
  have HU := Lib.hid (fun W => U32_any l.length (by omega) W)
  rw [← hsz] at HU hp HE
  have hl2 : (bs l).size ≤ 1000000 := by omega
  clear hsz hl
  generalize bs l = B at *
  generalize hS : bs (pack4 B.size) = P at *
  have HS := Lib.hid hS
  clear hS
  go_enter Tryz.func82, Tryz.ntmps82
  go_wp2_with (go_at_call 60; refine (HU.out _).mono ?_; rintro e w' ⟨rfl, hb⟩)
  go_ret
  exact ⟨by rw [← HE.out]; rfl, hb⟩

end Go.Proofs.YtobhpclemmhpoaaGreatDoor

namespace Go.Proofs.YtobhpclemmhpoaaGreatDoor
open Go.RowKit

def hd0 : List UInt8 → UInt8
  | [] => 0
  | b :: _ => b
def plainL : List UInt8 → List UInt8
  | [] => []
  | b :: l => if b = 0 then plainL l else b :: l
def strLen : Value → Nat
  | .string s => s.size
  | _ => 0

theorem drop_one (b : UInt8) (l : List UInt8) : (bs (b :: l)).extract 1 (bs (b :: l)).size = bs l := by
  have := bs_drop (b :: l) 1
  simpa using this

set_option maxRecDepth 100000 in
theorem trimByte_any (l : List UInt8) (hl : l.length ≤ 1000000) (w : World) : Calls Tryz.prog 104 #[.string (bs l), .int .u8 0] w fun e w' => e = .returned (.string (bs (plainL l))) ∧ w' = w := by
  go_enter Tryz.func104, Tryz.ntmps104
  go_wp2_with fail
  go_loopw [0] (fun v wr => ∃ m : List UInt8, m.length ≤ 1000000 ∧ v = .string (bs m) ∧ plainL m = plainL l ∧ wr = w) (fun v _ => strLen v)
  case atStart => exact ⟨l, hl, rfl, rfl, rfl⟩
  case round =>
    obtain ⟨m, hm, rfl, hp, rfl⟩ := hrel
    cases m with
    | nil =>
      have HP : Hid (plainL l = []) := hp.symm
      have HE : Hid (bs ([] : List UInt8) = ⟨#[]⟩) := rfl
      rw [show bs ([] : List UInt8) = ⟨#[]⟩ from rfl]
      clear hp
      go_wp2_with fail
      go_ret
      exact ⟨by rw [HP.out, HE.out]; rfl, rfl⟩
    | cons b r =>
      have hi := fun W => index_bs (b :: r) 0 (by simp) W
      simp only [List.getElem_cons_zero] at hi
      have hi0 : ∀ W : World, (Instr.index 9 (.string (bs (b :: r))) (.int .i64 0)).run Tryz.prog W = .ok (.int .u8 (b.toNat : Int)) W := hi
      have hd := drop_one b r
      have hsz := bs_size (b :: r)
      simp only [List.length_cons] at hm hsz
      have hrs := bs_size r
      by_cases hb : b = 0
      · have HP : Hid (plainL r = plainL l) := by
          show plainL r = _
          rw [← hp, plainL, if_pos hb]
        have hbn : b.toNat = 0 := by rw [hb]; rfl
        rw [hbn] at hi0
        have hi1 : ∀ W : World, (Instr.index 9 (.string (bs (b :: r))) (.int .i64 0)).run Tryz.prog W = .ok (.int .u8 0) W := hi0
        clear hi hi0 hp hbn hb
        have hpos : 0 < (bs (b :: r)).size := by omega
        have hle : (bs (b :: r)).size ≤ 1000000 := by omega
        have HR : Hid (∃ T, T = bs r) := ⟨_, rfl⟩
        obtain ⟨T, hT⟩ := HR.out
        rw [← hT] at hd hrs
        rw [hsz] at hd
        have HT := Lib.hid hT
        have HD := Lib.hid hd
        clear hT
        generalize bs (b :: r) = B at *
        go_wp2_with fail
        go_roundw
        case rel => exact ⟨r, by omega, by rw [HT.out], HP.out, trivial⟩
        case measure => simp only [strLen]; omega
      · have HP : Hid (plainL l = b :: r) := by
          show plainL l = _
          rw [← hp, plainL, if_neg hb]
        have hbn : b.toNat ≠ 0 := fun e => hb (UInt8.toNat_inj.1 e)
        have hq : ((b.toNat : Int) == 0) = false := by
          rw [beq_eq_false_iff_ne]
          omega
        have HB : Hid (bs (b :: r) = bs (b :: r)) := rfl
        have hpos : 0 < (bs (b :: r)).size := by omega
        have hle : (bs (b :: r)).size ≤ 1000000 := by omega
        clear hi hp hb hbn hd
        obtain ⟨B, hB⟩ : ∃ B, B = bs (b :: r) := ⟨_, rfl⟩
        rw [← hB] at hi0 hsz hpos hle ⊢
        have HBB := Lib.hid hB
        clear hB
        generalize b.toNat = n at *
        go_wp2_with fail
        go_ret
        exact ⟨by rw [HP.out, ← HBB.out]; rfl, rfl⟩

set_option maxRecDepth 100000 in
theorem TrimLeft_any (l : List UInt8) (hl : l.length ≤ 1000000) (w : World) : Calls Tryz.prog 91 #[.string (bs l), .string ⟨#[0]⟩] w fun e w' => e = .returned (.string (bs (plainL l))) ∧ w' = w := by
  cases l with
  | nil =>
    rw [show bs ([] : List UInt8) = ⟨#[]⟩ from rfl]
    have HP : Hid (bs (plainL []) = ⟨#[]⟩) := rfl
    go_enter Tryz.func91, Tryz.ntmps91
    go_wp2
    go_ret
    exact ⟨by rw [HP.out]; rfl, rfl⟩
  | cons b r =>
    have hne : (bs (b :: r)).toList.isEmpty = false := by
      rw [ByteArray.toList_eq]
      simp [bs]
    have hc := Lib.hid (trimByte_any (b :: r) hl)
    have hi0 : ∀ W : World, (Instr.index 9 (.string ⟨#[0]⟩) (.int .i64 0)).run Tryz.prog W = .ok (.int .u8 0) W := fun W => index_bs [0] 0 (by simp) W
    have hz : (⟨#[0]⟩ : ByteArray).toList.isEmpty = false := by rw [ByteArray.toList_eq]; rfl
    have hz1 : (⟨#[0]⟩ : ByteArray).size = 1 := rfl
    generalize (⟨#[0]⟩ : ByteArray) = Z at *
    generalize bs (b :: r) = B at *
    go_enter Tryz.func91, Tryz.ntmps91
    go_wp2_with (go_at_call 104; refine (hc.out _).mono ?_; rintro e w1 ⟨rfl, rfl⟩)
    go_ret
    exact ⟨rfl, rfl⟩

theorem unpadded_any (l : List UInt8) (hl : l.length ≤ 1000000) (w : World) : Calls Tryz.prog 80 #[.string (bs l)] w fun e w' => e = .returned (.string (bs (plainL l))) ∧ w' = w := by
  have hc := Lib.hid (TrimLeft_any l hl)
  generalize bs l = B at *
  go_enter Tryz.func80, Tryz.ntmps80
  go_wp2_with (go_at_call 91; refine (hc.out _).mono ?_; rintro e w1 ⟨rfl, rfl⟩)
  go_ret
  exact ⟨rfl, rfl⟩

theorem plainL_le : ∀ l : List UInt8, (plainL l).length ≤ l.length
  | [] => Nat.le_refl _
  | b :: l => by
    have := plainL_le l
    unfold plainL
    split
    · simp; omega
    · exact Nat.le_refl _
end Go.Proofs.YtobhpclemmhpoaaGreatDoor
