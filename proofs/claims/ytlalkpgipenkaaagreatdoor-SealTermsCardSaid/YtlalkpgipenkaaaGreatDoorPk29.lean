/- Part 29 of what the statement wants. -/
import Derived.Test.YtlalkpgipenkaaaGreatDoorPk01
import Derived.Test.YtlalkpgipenkaaaGreatDoorPk26
import Derived.Test.YtlalkpgipenkaaaGreatDoorPk27
import Derived.Test.YtlalkpgipenkaaaGreatDoorPk28
namespace Go.Proofs.YtlalkpgipenkaaaGreatDoor
open Go.RowKit

/-- How many were read, the error of the next one, the fields, what is left. -/
def readsP : List UInt8 → List UInt8 → Nat × Int × List FieldR × List UInt8
  | [], r => (0, 0, [], r)
  | k :: F, r => if (readP k r).1 = 0 then ((readsP F (readP k r).2.2).1 + 1, (readsP F (readP k r).2.2).2.1, (readP k r).2.1 :: (readsP F (readP k r).2.2).2.2.1, (readsP F (readP k r).2.2).2.2.2) else (0, (readP k r).1, [], r)
def RdTo (F rest : List UInt8) (j : Nat) (fs : List FieldR) (r : List UInt8) : Prop := readsP (F.take j) rest = (j, 0, fs, r)
theorem readsP_ok {k : UInt8} {F r : List UInt8} (h : (readP k r).1 = 0) : readsP (k :: F) r = ((readsP F (readP k r).2.2).1 + 1, (readsP F (readP k r).2.2).2.1, (readP k r).2.1 :: (readsP F (readP k r).2.2).2.2.1, (readsP F (readP k r).2.2).2.2.2) := by
  show (if _ then _ else _) = _
  rw [if_pos h]
theorem readsP_no {k : UInt8} {F r : List UInt8} (h : (readP k r).1 ≠ 0) : readsP (k :: F) r = (0, (readP k r).1, [], r) := by
  show (if _ then _ else _) = _
  rw [if_neg h]
theorem readsP_app : ∀ (F G r : List UInt8), (readsP F r).2.1 = 0 → readsP (F ++ G) r = ((readsP F r).1 + (readsP G (readsP F r).2.2.2).1, (readsP G (readsP F r).2.2.2).2.1, (readsP F r).2.2.1 ++ (readsP G (readsP F r).2.2.2).2.2.1, (readsP G (readsP F r).2.2.2).2.2.2)
  | [], G, r, _ => by simp [readsP]
  | k :: F, G, r, h => by
    by_cases h0 : (readP k r).1 = 0
    · rw [readsP_ok h0] at h
      have ih := readsP_app F G (readP k r).2.2 h
      rw [List.cons_append, readsP_ok h0, readsP_ok h0, ih]
      simp only [List.cons_append, Prod.mk.injEq, and_true]
      omega
    · rw [readsP_no h0] at h
      exact absurd h h0
theorem readsP_count : ∀ (F r : List UInt8), (readsP F r).2.1 = 0 → (readsP F r).1 = F.length ∧ (readsP F r).2.2.1.length = F.length
  | [], r, _ => ⟨rfl, rfl⟩
  | k :: F, r, h => by
    by_cases h0 : (readP k r).1 = 0
    · rw [readsP_ok h0] at h ⊢
      have ih := readsP_count F _ h
      exact ⟨by show _ + 1 = F.length + 1; rw [ih.1], by show (_ :: _).length = F.length + 1; rw [List.length_cons, ih.2]⟩
    · rw [readsP_no h0] at h
      exact absurd h h0
theorem RdTo.start (F rest : List UInt8) : RdTo F rest 0 [] rest := rfl
theorem RdTo.next {F rest : List UInt8} {j : Nat} {fs : List FieldR} {r : List UInt8} (h : RdTo F rest j fs r) (hj : j < F.length) (h0 : (readP F[j] r).1 = 0) : RdTo F rest (j + 1) (fs ++ [(readP F[j] r).2.1]) (readP F[j] r).2.2 := by
  unfold RdTo at h ⊢
  rw [List.take_succ_eq_append_getElem hj, readsP_app _ _ _ (by rw [h]), h]
  simp only
  rw [readsP_ok h0]
  simp [readsP]
theorem RdTo.fail {F rest : List UInt8} {j : Nat} {fs : List FieldR} {r : List UInt8} (h : RdTo F rest j fs r) (hj : j < F.length) (h0 : (readP F[j] r).1 ≠ 0) : readsP F rest = (j, (readP F[j] r).1, fs, r) := by
  unfold RdTo at h
  obtain ⟨k, hk⟩ : ∃ k, k = F[j] := ⟨_, rfl⟩
  rw [← hk] at h0 ⊢
  have e : F = F.take j ++ k :: F.drop (j + 1) := by rw [hk, ← List.drop_eq_getElem_cons hj, List.take_append_drop]
  have h2 := readsP_app (F.take j) (k :: F.drop (j + 1)) rest (by rw [h])
  rw [← e, h] at h2
  simp only at h2
  rw [readsP_no h0] at h2
  rw [h2]
  simp
theorem RdTo.all {F rest : List UInt8} {fs : List FieldR} {r : List UInt8} (h : RdTo F rest F.length fs r) : readsP F rest = (F.length, 0, fs, r) := by
  unfold RdTo at h
  rwa [List.take_length] at h
theorem RdTo.len {F rest : List UInt8} {j : Nat} {fs : List FieldR} {r : List UInt8} (h : RdTo F rest j fs r) (hj : j ≤ F.length) : fs.length = j := by
  unfold RdTo at h
  have := (readsP_count (F.take j) rest (by rw [h])).2
  rw [h] at this
  simpa [Nat.min_eq_left hj] using this

/-- The cells of fields, each with the value of its list. -/
def cells7 (l : List (FieldR × Value)) : List Value := l.flatMap fun p => [.int .u8 (p.1.kind.toNat : Int), .int .i64 p.1.n, .string (bs p.1.s), p.2]
theorem cells7_snoc (l : List (FieldR × Value)) (x : FieldR) (v : Value) : cells7 (l ++ [(x, v)]) = cells7 l ++ [.int .u8 (x.kind.toNat : Int), .int .i64 x.n, .string (bs x.s), v] := by simp [cells7]
theorem cells7_at : ∀ (l : List (FieldR × Value)) (k : Nat) (x : FieldR) (v : Value), l[k]? = some (x, v) → ∀ i : Nat, i < 4 → (cells7 l)[k * 4 + i]? = [Value.int .u8 (x.kind.toNat : Int), .int .i64 x.n, .string (bs x.s), v][i]?
  | [], k, x, v, h, i, hi => by simp at h
  | p :: l, 0, x, v, h, i, hi => by
    simp at h
    subst h
    have : cells7 ((x, v) :: l) = [Value.int .u8 (x.kind.toNat : Int), .int .i64 x.n, .string (bs x.s), v] ++ cells7 l := rfl
    rw [this, List.getElem?_append_left (by simp; omega)]
    simp
  | p :: l, k + 1, x, v, h, i, hi => by
    have ih := cells7_at l k x v (by simpa using h) i hi
    have : cells7 (p :: l) = [Value.int .u8 (p.1.kind.toNat : Int), .int .i64 p.1.n, .string (bs p.1.s), p.2] ++ cells7 l := rfl
    rw [this, List.getElem?_append_right (by simp; omega)]
    have e : (k + 1) * 4 + i - [Value.int .u8 (p.1.kind.toNat : Int), .int .i64 p.1.n, .string (bs p.1.s), p.2].length = k * 4 + i := by simp; omega
    rw [e]
    exact ih
set_option maxRecDepth 100000 in
theorem infoField : (Tryz.prog.info? 81).map (fun i => (i.zero, i.size, i.bytes)) = some (some (.agg #[.int .u8 0, .int .i64 0, .string ⟨#[]⟩, .slice none 0 0]), 4, 56) := by kernel_rfl
/-- The lists of the fields, each where its value says. -/
def ListsAt (w : World) (l : List (FieldR × Value)) : Prop := ∀ p ∈ l, (∃ ao cap, p.2 = .slice ao p.1.l.length cap ∧ p.1.l.length ≤ cap ∧ TextsAt w (.slice ao p.1.l.length cap) (p.1.l.map bs)) ∧ FieldIn p.1
theorem FieldsAt.ofRow {w : World} {B : Nat} {v : Value} {l : List (FieldR × Value)} (h : w.ownsRow B 81 4 v l.length (cells7 l)) (hl : ListsAt w l) (hn : l.length ≤ 1000) : FieldsAt w v (l.map (·.1)) := by
  rcases id h.2 with ⟨rfl, h0⟩ | ⟨g, cap, cur, rfl, hb, hg, hcap, _⟩
  · have : l = [] := List.length_eq_zero_iff.1 h0
    subst this
    exact ⟨none, 0, rfl, Nat.le_refl _, by simp, by simp, fun h => absurd rfl h⟩
  · refine ⟨some ⟨g, 0, none⟩, cap, by rw [List.length_map], by rw [List.length_map]; exact hcap, by rw [List.length_map]; omega, ?_, fun _ => ⟨g, 0, rfl, (Array.getElem?_eq_some_iff.1 hg).1, ?_⟩⟩
    · intro x hx
      obtain ⟨p, hp, rfl⟩ := List.mem_map.1 hx
      exact (hl p hp).2
    · intro k x hx
      rw [List.getElem?_map] at hx
      obtain ⟨⟨x', u⟩, hp, rfl⟩ := Option.map_eq_some_iff.1 hx
      have hc : ∀ i, i < 4 → w.cell? ⟨g, k * 4 + i, none⟩ = [Value.int .u8 (x'.kind.toNat : Int), .int .i64 x'.n, .string (bs x'.s), u][i]? := fun i hi => by
        have h1 := cells7_at l k x' u hp i hi
        have hlt : i < [Value.int .u8 (x'.kind.toNat : Int), .int .i64 x'.n, .string (bs x'.s), u].length := by simpa using hi
        rw [List.getElem?_eq_getElem hlt] at h1 ⊢
        have h2 := h.cells (g := g) rfl (k * 4 + i) _ h1
        rw [Addr.add_lit, Nat.zero_add] at h2
        exact h2
      obtain ⟨⟨ao, cap', e1, e2, e3⟩, _⟩ := hl _ (List.mem_of_getElem? hp)
      simp only at e1 e2 e3
      subst e1
      refine ⟨?_, ?_, ?_, ao, cap', ?_, e2, e3⟩
      · simp
      · simp
      · simp
      · simp
end Go.Proofs.YtlalkpgipenkaaaGreatDoor

namespace Go.Proofs.YtlalkpgipenkaaaGreatDoor
open Go.RowKit

theorem FieldSm.in {m : Nat} {x : FieldR} (h : FieldSm m x) (hm : m ≤ 1000000) : FieldIn x := ⟨by have := h.n; omega, by have := h.s; omega, by have := h.l; omega, fun y hy => by have := h.ls y hy; omega⟩
theorem FieldSm.mono {m n : Nat} {x : FieldR} (h : FieldSm m x) (hm : m ≤ n) : FieldSm n x := ⟨h.n, Nat.le_trans h.s hm, h.l, fun y hy => by have := h.ls y hy; omega⟩
theorem TextsAt.moves2 {S : Nat → Prop} {w w' : World} {v : Value} {l : List ByteArray} (h : TextsAt w v l) (m : Moves S w w') (hS : l ≠ [] → ∀ g, v.ownBlock = some g → ¬ S g) : TextsAt w' v l := by
  obtain ⟨ao, cap, rfl, hc⟩ := h
  refine ⟨ao, cap, rfl, fun hne => ?_⟩
  obtain ⟨b, off, rfl, hb, hk⟩ := hc hne
  exact ⟨b, off, rfl, Nat.lt_of_lt_of_le hb m.size, fun k x hx => (m.cell (p := ⟨b, off + k, none⟩) hb (hS hne b rfl)).trans (hk k x hx)⟩
theorem TextsAt.block {w : World} {v : Value} {l : List ByteArray} (h : TextsAt w v l) (hne : l ≠ []) {b : Nat} (hb : v.ownBlock = some b) : b < w.heap.size := by
  obtain ⟨ao, cap, rfl, hc⟩ := h
  obtain ⟨b', off, rfl, hb', _⟩ := hc hne
  simp only [Value.ownBlock, Option.some.injEq] at hb
  omega
/-- append of one field to a row of the call's own. -/
theorem wpList_app7 {ops : Array Oper} {rest : List Oper} {o : Oper} {a : Act} {w : World} {Q : Exit → Act → World → Prop} (hgd : o.guard = none) (sl x : Operand)
    (ho : o.op = .call { callee := .builtin .append, args := #[sl, x], argTypes := #[70, 70] }) {B : Nat} {v : Value} {l : List (FieldR × Value)} (hs : a.eval sl = v) (hown : w.ownsRow B 81 4 v l.length (cells7 l)) (f : FieldR) (u : Value) (hu : u.oneCell' = true) (X : Nat)
    (hx : a.eval x = .slice (some ⟨X, 0, none⟩) 1 1) (hX : Holds w X 81 #[.int .u8 (f.kind.toNat : Int), .int .i64 f.n, .string (bs f.s), u]) (hn : l.length ≤ 1000) (hb : B ≤ w.heap.size)
    (h : ∀ v' w', w'.ownsRow B 81 4 v' (l ++ [(f, u)]).length (cells7 (l ++ [(f, u)])) → w.grownBy w' v.ownBlock → (v'.ownBlock = v.ownBlock ∨ v'.ownBlock = some w.heap.size) → wpList Tryz.prog ops Q rest (a.put o.dst v') w') : wpList Tryz.prog ops Q (o :: rest) a w := by
  refine wpList_plain hgd fun K hK => ?_
  obtain ⟨i0, hi, hz0, hz1, hz2⟩ := info_parts infoField
  obtain ⟨v', w', hr, h2, h3, _, h5⟩ := run_append_own_at (P := Tryz.prog) w B 70 o.type 81 i0 _ 4 56 Tryz.underlying70 hi hz0 hz1 hz2 rfl (by omega) _ _ _ hown ⟨X, 0, none⟩ 1 1 [.int .u8 (f.kind.toNat : Int), .int .i64 f.n, .string (bs f.s), u] rfl
    (fun j y hj => by rw [Addr.add_lit, Nat.zero_add, hX.cell]; simpa using hj) (by intro y hy; simp only [List.mem_cons, List.not_mem_nil, or_false] at hy; rcases hy with rfl | rfl | rfl | rfl <;> first | rfl | exact hu) (by unfold maxLen; omega) (by omega) hb
  unfold Oper.wp execOp
  simp only [ho, resolve, invoke, builtin, Sem.run_bind, Sem.run_pure, Result.andThen_ok, List.map_toArray, List.map_cons, List.map_nil, hs, hx, hr]
  refine hK _ _ (h v' w' ?_ h3 h5)
  rw [cells7_snoc, List.length_append]
  exact h2

/-- Fields that read so as long as no block from B on is turned. -/
def FieldsKept (w : World) (v : Value) (fs : List FieldR) (B : Nat) : Prop := ∀ (S : Nat → Prop) (w' : World), (∀ i, S i → i < B) → Moves S w w' → FieldsAt w' v fs
theorem FieldsKept.now {w : World} {v : Value} {fs : List FieldR} {B : Nat} (h : FieldsKept w v fs B) : FieldsAt w v fs := h nobody w (fun _ h => h.elim) (Moves.refl _ _)
theorem FieldsKept.ofRow {w : World} {B : Nat} {v : Value} {l : List (FieldR × Value)} (h : w.ownsRow B 81 4 v l.length (cells7 l)) (hl : ListsAt w l) (hn : l.length ≤ 1000) (hf : ∀ p ∈ l, p.1.l ≠ [] → ∀ b, p.2.ownBlock = some b → B ≤ b) : FieldsKept w v (l.map (·.1)) B := fun S w' hS m => by
  refine FieldsAt.ofRow (rdOwn_moves h m fun k hk hs => ?_) (fun p hp => ?_) hn
  · have := hS k hs
    have := (h.lt k hk).1
    omega
  · obtain ⟨⟨ao, cap, e1, e2, e3⟩, e4⟩ := hl p hp
    refine ⟨⟨ao, cap, e1, e2, e3.moves2 m fun hne g hg hs => ?_⟩, e4⟩
    have := hf p hp (by simpa using hne) g (by rw [e1]; exact hg)
    have := hS g hs
    omega
theorem FieldsKept.later {w w' : World} {v : Value} {fs : List FieldR} {B B' : Nat} {S : Nat → Prop} (h : FieldsKept w v fs B) (m : Moves S w w') (hS : ∀ i, S i → i < B) (hB : B' ≤ B) : FieldsKept w' v fs B' := by
  intro T w2 hT m2
  have a : Moves (fun i => S i ∨ T i) w w' := m.mono fun i hi _ => .inl hi
  have b : Moves (fun i => S i ∨ T i) w' w2 := m2.mono fun i hi _ => .inr hi
  refine h (fun i => S i ∨ T i) w2 (fun i hi => ?_) (a.trans b fun i hi => .inl hi)
  rcases hi with hi | hi
  · exact hS i hi
  · have := hT i hi; omega

structure SplitInv (w wr : World) (it : Nat) (F s : List UInt8) (FF : ByteArray) (j : Nat) (l : List (FieldR × Value)) (r : List UInt8) (v : Value) : Prop where
  rd : RdTo F s j (l.map (·.1)) r
  len : l.length = j
  rl : r.length ≤ s.length
  own : wr.ownsRow w.heap.size 81 4 v l.length (cells7 l)
  lists : ListsAt wr l
  far : ∀ p ∈ l, p.1.l ≠ [] → ∀ b, p.2.ownBlock = some b → b ≠ w.heap.size ∧ b ≠ it ∧ v.ownBlock ≠ some b ∧ w.heap.size ≤ b
  at_ : WAt wr w.heap.size r 0
  itr : wr.heap[it]? = some (.stringIter FF j)
  bel : Below w.heap.size w wr
  itR : w.heap.size ≤ it

theorem own_ne_iter {w : World} {B n k p size : Nat} {t : TypeId} {v : Value} {xs : List Value} {s : ByteArray} (h : w.ownsRow B t size v n xs) (hk : w.heap[k]? = some (.stringIter s p)) : v.ownBlock ≠ some k := by
  intro he
  rcases h.2 with ⟨rfl, _⟩ | ⟨g', cap, cur, rfl, _, hh, _⟩
  · simp [Value.ownBlock] at he
  · have : g' = k := by simpa [Value.ownBlock] using he
    subst this
    rw [hk] at hh
    cases hh
theorem holds_ne_iter {w : World} {k p g : Nat} {t : TypeId} {cs : Array Value} {s : ByteArray} (h : Holds w g t cs) (hk : w.heap[k]? = some (.stringIter s p)) : g ≠ k := by
  rintro rfl
  unfold Holds at h
  rw [hk] at h
  cases h

theorem SplitInv.step {w wr Wa Wb We : World} {it j : Nat} {F s : List UInt8} {FF : ByteArray} {l : List (FieldR × Value)} {r r' : List UInt8} {v v' : Value} {x : FieldR} {ao : Option Addr} {cap : Nat} (h : SplitInv w wr it F s FF j l r v) (hj : j < F.length) (hs : s.length ≤ 40000)
    (ma : Moves (fun i => i = it) wr Wa) (hita : Wa.heap[it]? = some (.stringIter FF (j + 1))) (mb : Moves (fun i => i = w.heap.size) Wa Wb)
    (h0 : (readP F[j] r).1 = 0) (hx : (readP F[j] r).2.1 = x) (hr' : (readP F[j] r).2.2 = r') (hcap : x.l.length ≤ cap) (hu : TextsAt Wb (.slice ao x.l.length cap) (x.l.map bs)) (hnew : ∀ g, (Value.slice ao x.l.length cap).ownBlock = some g → Wa.heap.size ≤ g)
    (hR : WAt Wb w.heap.size r' 0) (hown : We.ownsRow w.heap.size 81 4 v' (l ++ [(x, Value.slice ao x.l.length cap)]).length (cells7 (l ++ [(x, .slice ao x.l.length cap)]))) (me : Moves (fun i => v.ownBlock = some i) Wb We)
    (hv' : v'.ownBlock = v.ownBlock ∨ ∃ g, v'.ownBlock = some g ∧ Wb.heap.size ≤ g) :
    SplitInv w We it F s FF (j + 1) (l ++ [(x, .slice ao x.l.length cap)]) r' v' := by
  have hitlt : it < wr.heap.size := (Array.getElem?_eq_some_iff.1 h.itr).1
  have hRne : w.heap.size ≠ it := holds_ne_iter h.at_ h.itr
  have hvit := own_ne_iter h.own h.itr
  have hvR : v.ownBlock ≠ some w.heap.size := rdOwn_ne h.own h.at_ (by decide)
  have hvlt : ∀ g, v.ownBlock = some g → g < wr.heap.size := fun g hg => (h.own.lt g hg).2
  have hsm : FieldSm 40000 x := by
    have := readP_in F[j] r
    rw [hx] at this
    exact this.mono (by have := h.rl; omega)
  have hrl : r'.length ≤ r.length := by rw [← hr']; exact readP_rest _ _
  have m1 : Moves (fun i => i = it ∨ i = w.heap.size) wr Wb := (ma.mono fun i hi _ => .inl hi).trans mb fun i hi => .inl (.inr hi)
  have m2 : Moves (fun i => i = it ∨ i = w.heap.size ∨ v.ownBlock = some i) wr We := (m1.mono fun i hi _ => hi.imp id .inl).trans me fun i hi => .inl (.inr (.inr hi))
  have hlist : ∀ p ∈ l, p.1.l ≠ [] → ∀ b, p.2.ownBlock = some b → b < wr.heap.size := fun p hp hne b hb => by
    obtain ⟨⟨ao', cap', e1, _, e3⟩, _⟩ := h.lists p hp
    exact e3.block (by simpa using hne) (by rw [← e1]; exact hb)
  refine ⟨?_, by rw [List.length_append, h.len]; rfl, Nat.le_trans hrl h.rl, hown, ?_, ?_, hR.moves me hvR, ?_, h.bel.trans (m2.below h.bel.size fun i hi => ?_), h.itR⟩
  · have := h.rd.next hj h0
    rw [hx, hr'] at this
    rw [List.map_append]
    exact this
  · intro p hp
    rcases List.mem_append.1 hp with hp | hp
    · obtain ⟨⟨ao', cap', e1, e2, e3⟩, e4⟩ := h.lists p hp
      refine ⟨⟨ao', cap', e1, e2, e3.moves2 m2 fun hne g hg => ?_⟩, e4⟩
      have := h.far p hp (by simpa using hne) g (by rw [e1]; exact hg)
      rintro (rfl | rfl | hi)
      · exact this.2.1 rfl
      · exact this.1 rfl
      · exact this.2.2.1 hi
    · simp only [List.mem_singleton] at hp
      subst hp
      refine ⟨⟨ao, cap, rfl, hcap, hu.moves2 me fun _ g hg hi => ?_⟩, hsm.in (by omega)⟩
      have := hnew g hg
      have := hvlt g hi
      have := ma.size
      omega
  · intro p hp hne b hb
    rcases List.mem_append.1 hp with hp | hp
    · have h1 := h.far p hp hne b hb
      have h2 := hlist p hp hne b hb
      refine ⟨h1.1, h1.2.1, fun e => ?_, h1.2.2.2⟩
      rcases hv' with e' | ⟨g, e', hg⟩
      · exact h1.2.2.1 (e' ▸ e)
      · rw [e'] at e
        injection e with e
        have := m1.size
        omega
    · simp only [List.mem_singleton] at hp
      subst hp
      have h1 := hnew b hb
      have h2 := hu.block (by simpa using hne) hb
      have h3 := ma.size
      have h4 := h.at_.lt
      have h5 := h.bel.size
      have h6 := ma.size
      refine ⟨by omega, by omega, fun e => ?_, by omega⟩
      rcases hv' with e' | ⟨g, e', hg⟩
      · have := hvlt b (e' ▸ e)
        omega
      · rw [e'] at e
        injection e with e
        omega
  · have h1 : Wb.heap[it]? = some (.stringIter FF (j + 1)) := (mb.block it (Array.getElem?_eq_some_iff.1 hita).1 (Ne.symm hRne)).trans hita
    exact (me.block it (Array.getElem?_eq_some_iff.1 h1).1 hvit).trans h1
  · rcases hi with rfl | rfl | hi
    · exact h.itR
    · exact Nat.le_refl _
    · exact (h.own.lt i hi).1
end Go.Proofs.YtlalkpgipenkaaaGreatDoor

namespace Go.Proofs.YtlalkpgipenkaaaGreatDoor
open Go.RowKit

def placeB (j : Nat) : ByteArray := ⟨(Lib.decDigits j).toArray⟩
def endS : ByteArray := ⟨#[101, 110, 100]⟩
def SplitPost (F s : List UInt8) (w : World) (e : Ending) (w' : World) : Prop :=
  Below w.heap.size w w' ∧
  (((readsP F s).2.1 ≠ 0 ∧ ∃ v t u, e = .returned (.tuple #[v, .iface t u]) ∧ ErrAt w' (.iface t u) [placeB (readsP F s).1] (some (readsP F s).2.1)) ∨
   ((readsP F s).2.1 = 0 ∧ endP (readsP F s).2.2.2 0 ≠ 0 ∧ ∃ v t u, e = .returned (.tuple #[v, .iface t u]) ∧ ErrAt w' (.iface t u) [endS] (some (endP (readsP F s).2.2.2 0))) ∨
   ((readsP F s).2.1 = 0 ∧ endP (readsP F s).2.2.2 0 = 0 ∧ ∃ v, e = .returned (.tuple #[v, .nilIface]) ∧ FieldsKept w' v (readsP F s).2.2.1 w.heap.size))
theorem letters_ascii {k : UInt8} (hk : k ∈ letters8) : k.toNat < 128 := by
  simp only [letters8, List.mem_cons, List.not_mem_nil, or_false] at hk
  rcases hk with rfl | rfl | rfl | rfl | rfl | rfl | rfl | rfl <;> decide
theorem itPos_eq {w : World} {k p : Nat} {s : ByteArray} (h : w.heap[k]? = some (.stringIter s p)) : itPos w k = p := by
  unfold itPos
  rw [h]

set_option maxHeartbeats 2000000 in
set_option maxRecDepth 100000 in
theorem split_any {w : World} (F s : List UInt8) (hs : s.length ≤ 40000) (hF : F.length ≤ 20) (hl8 : ∀ k ∈ F, k ∈ letters8) (hV : VarAt w) :
    Calls Tryz.prog 83 #[.string (bs F), .string (bs s)] w (SplitPost F s w) := by
  have zF := bs_size F
  have HNw := Lib.hid (fun W => wNew_any s W)
  have HV := Lib.hid hV
  have HNx : Hid (∀ (W : World) (k it : Nat) (hk : k < F.length), W.heap[it]? = some (.stringIter (bs F) k) → ∀ ty, (Instr.next (.pointer (some ⟨it, 0, none⟩)) true ty).run Tryz.prog W = .ok (.tuple #[.bool true, .int .i64 k, .int .i32 ((F[k]'hk).toNat : Int)]) (W.iterAt it (bs F) (k + 1))) := fun W k it hk hi ty => by
    have hg : ((bs F)[k]'(by rw [bs_size]; exact hk)) = F[k] := by simp [bs, ByteArray.getElem_eq_getElem_data]
    have := Lib.run_next_ascii_at (P := Tryz.prog) W it (bs F) k ty hi (by rw [bs_size]; exact hk) (by rw [hg]; exact letters_ascii (hl8 _ (List.getElem_mem hk)))
    rw [hg] at this
    exact this
  have HNe : Hid (∀ (W : World) (it : Nat), W.heap[it]? = some (.stringIter (bs F) F.length) → ∀ ty, (Instr.next (.pointer (some ⟨it, 0, none⟩)) true ty).run Tryz.prog W = .ok (.tuple #[.bool false]) W) := fun W it hi ty =>
    Lib.run_next_end_at (P := Tryz.prog) W it (bs F) F.length ty hi (by rw [bs_size]; omega)
  have HO : Hid (∀ (x : ByteArray) (e : Int) (_ : e ≠ 0) W, Calls Tryz.prog 80 #[.string x, .int .i64 e] W fun r w' => ∃ t u, r = .returned (.iface t u) ∧ ErrAt w' (.iface t u) [x] (some e) ∧ Below W.heap.size W w') := fun x e he W =>
    (fOf_any x e he W).mono fun r w' ⟨v', h1, h2, h3, h4⟩ => by
      cases h2
      exact ⟨_, _, h1, .fault ‹_› ‹_› ‹_› ‹_›, h4⟩
  have HI : Hid (∀ (i : Nat) (_ : i < 100) W, Calls Tryz.prog 128 #[.int .i64 i] W fun e w' => e = .returned (.string (placeB i)) ∧ w' = W) := fun i hi W => Tryz.strconv_Itoa_small i hi W
  have HRd : Hid (∀ (W : World) (r : List UInt8) (k : UInt8) (_ : WAt W w.heap.size r 0) (_ : r.length ≤ 40000) (_ : VarAt W) (_ : k ∈ letters8), Calls Tryz.prog 127 #[.int .i32 (k.toNat : Int), .pointer (some ⟨w.heap.size, 0, none⟩)] W (ReadPost w.heap.size W (readP k r).1 (readP k r).2.1 (readP k r).2.2)) := fun W r k h1 h2 h3 h4 => read_any h1 h2 h3 h4
  have HL8 := Lib.hid hl8
  have hvl := hV.pos
  obtain ⟨i0, hi, hz0, hz1, hz2⟩ := info_parts infoField
  clear hl8 hV
  generalize hFF : bs F = FF at *
  clear hFF
  obtain ⟨S, hS⟩ : ∃ S, S = bs s := ⟨_, rfl⟩
  rw [← hS] at HNw ⊢
  clear hS
  go_enter Tryz.func83, Tryz.ntmps83
  go_wp2_with (first
    | (go_at_call 126; with_reducible refine (HNw.out _).mono ?_; rintro e' w1 ⟨rfl, h1, b1⟩; obtain ⟨w2, hmk, hown2, hg2⟩ := run_make_own (P := Tryz.prog) w1 w.heap.size 70 81 i0 _ 4 Tryz.underlying70 hi hz0 hz1 .i64 .i64 F.length (by rw [hz2]; omega) (by unfold maxLen; omega) b1.size))
  have hs12 : w1.heap.size < w2.heap.size := (hown2.lt _ rfl).2
  have hRl := h1.lt
  have m12 : Moves nobody w1 w2 := (Moves.refl nobody w1).grown hg2 fun k hk => by cases hk
  have mI : Moves nobody w2 (w2.iter FF 0) := (Moves.refl nobody w2).alloc _
  have HInv : Hid (SplitInv w (w2.iter FF 0) w2.heap.size F s FF 0 [] s (.slice (some ⟨w1.heap.size, 0, none⟩) 0 F.length)) := by
    refine ⟨RdTo.start F s, rfl, Nat.le_refl _, rdOwn_moves hown2 mI (fun _ _ h => h), by intro p hp; simp at hp, by intro p hp; simp at hp, (h1.moves m12 fun h => h).moves mI fun h => h, World.iter_heap w2 FF 0, ?_, by omega⟩
    have hB := b1.trans (Moves.below (m12.trans mI fun _ h => h.elim) (B := w.heap.size) b1.size fun _ h => h.elim)
    exact hB
  have HIt : Hid (w1.heap.size < w2.heap.size) := hs12
  clear hmk hown2 hg2 h1 b1 m12 mI hi hz0 hz1 hz2 hs12 hRl
  generalize w2.heap.size = it at *
  generalize w2.iter FF 0 = W0 at *
  go_loopw [7] (fun p wr => ∃ (j : Nat) (l : List (FieldR × Value)) (r : List UInt8) (v : Value), v = p ∧ j ≤ F.length ∧ SplitInv w wr it F s FF j l r v) (fun _ wr => F.length - itPos wr it)
  case atStart => exact ⟨0, [], s, _, rfl, Nat.zero_le _, HInv.out⟩
  case round =>
    clear HInv HIt
    obtain ⟨j, l, r, v, hv0, hj, hinv⟩ := hrel
    subst hv0
    have HInv := Lib.hid hinv
    have HIp := Lib.hid (itPos_eq hinv.itr)
    by_cases hlt : j < F.length
    · have hnx := HNx.out wr j it hlt hinv.itr
      have mA := iter_moves wr it FF (j + 1)
      have hRne := holds_ne_iter hinv.at_ hinv.itr
      have hatA : WAt (wr.iterAt it FF (j + 1)) w.heap.size r 0 := hinv.at_.moves mA hRne
      have hitA := Lib.iterAt_heap wr it FF j (j + 1) hinv.itr
      have hvA : VarAt (wr.iterAt it FF (j + 1)) := (HV.out.below hinv.bel hvl).moves mA (by have := hinv.itR; omega)
      have hrl : r.length ≤ 40000 := Nat.le_trans hinv.rl hs
      have HRj := Lib.hid (HRd.out _ r (F[j]'hlt) hatA hrl hvA (HL8.out _ (List.getElem_mem hlt)))
      have HStep := Lib.hid (fun (Wb We : World) (x : FieldR) (r' : List UInt8) (v' : Value) (ao : Option Addr) (cap : Nat) => SplitInv.step (Wb := Wb) (We := We) (x := x) (r' := r') (v' := v') (ao := ao) (cap := cap) hinv hlt hs mA hitA)
      have HFail := Lib.hid (fun h => hinv.rd.fail hlt h)
      have hBa : Below w.heap.size w (wr.iterAt it FF (j + 1)) := hinv.bel.trans (mA.below hinv.bel.size fun i hi => by have := hinv.itR; omega)
      have HBa := Lib.hid hBa
      have hown := hinv.own
      have hlen := hinv.len
      have hvit := own_ne_iter hinv.own hinv.itr
      have hvR := rdOwn_ne hinv.own hinv.at_ (by decide)
      have hownA := rdOwn_moves hown mA (fun k hk e => hvit (by rw [hk, e]))
      clear hatA hvA hrl hinv mA hRne hBa hown hitA
      unfold ReadPost at HRj
      have HEx : Hid (∃ er x r', (readP (F[j]'hlt) r).1 = er ∧ (readP (F[j]'hlt) r).2.1 = x ∧ (readP (F[j]'hlt) r).2.2 = r') := ⟨_, _, _, rfl, rfl, rfl⟩
      obtain ⟨er, x, r', e1, e2, e3⟩ := HEx.out
      have HE1 := Lib.hid e1
      have HE2 := Lib.hid e2
      have HE3 := Lib.hid e3
      rw [e1, e2, e3] at HRj
      clear e1 e2 e3 HEx
      have HK : Hid (∃ k : Int, k = ((F[j]'hlt).toNat : Int)) := ⟨_, rfl⟩
      obtain ⟨k, hk⟩ := HK.out
      rw [← hk] at HRj hnx
      clear hk HK
      generalize hWA : wr.iterAt it FF (j + 1) = Wa at *
      clear hWA
      by_cases he : er = 0
      · unfold fieldV at HRj
        go_wp2_with fail
        go_at_call 127
        refine HRj.out.mono ?_
        rintro e' wb ⟨mb, hb⟩
        rcases hb with ⟨hb, _⟩ | ⟨_, ao, cap, rfl, hcap, hu, hR, hnew⟩
        · exact absurd he hb
        have hownB := rdOwn_moves hownA mb (fun k hk e => hvR (by rw [hk, e]))
        have HC := Lib.hid (And.intro hcap (And.intro hu (And.intro hR hnew)))
        have HMb := Lib.hid mb
        clear hcap hu hR hnew mb HRj hownA
        have HX : Hid (∀ A : Obj, Holds ((wb.alloc A).alloc (.cells #[.int .u8 (x.kind.toNat : Int), .int .i64 x.n, .string (bs x.s), .slice ao x.l.length cap] 81)) (wb.heap.size + 1) 81 #[.int .u8 (x.kind.toNat : Int), .int .i64 x.n, .string (bs x.s), .slice ao x.l.length cap]) := fun A => by
          have := Holds.new (wb.alloc A) 81 #[.int .u8 (x.kind.toNat : Int), .int .i64 x.n, .string (bs x.s), .slice ao x.l.length cap]
          rwa [World.size_alloc] at this
        have hwb : w.heap.size ≤ wb.heap.size := Nat.le_trans HBa.out.size HMb.out.size
        have hll : l.length ≤ 1000 := by omega
        go_wp2_with (
          (at_builtin
           refine wpList_app7 (B := w.heap.size) (v := v) (l := l) rfl (.tmp 35) (.tmp 37) rfl rfl ((hownB.alloc _).alloc _) x (.slice ao x.l.length cap) rfl (wb.heap.size + 1) rfl (HX.out _) hll (by simp; omega) ?_
           intro v' We hown' hgr hvv))
        have me : Moves (fun i => v.ownBlock = some i) wb We := (((Moves.refl _ wb).alloc _).alloc _).grown hgr fun k hk => .inl hk
        have hvn : v'.ownBlock = v.ownBlock ∨ ∃ g, v'.ownBlock = some g ∧ wb.heap.size ≤ g := hvv.imp id fun h => ⟨_, h, by simp; omega⟩
        obtain ⟨hcap, hu, hR, hnew⟩ := HC.out
        have HNext := Lib.hid (HStep.out wb We x r' v' ao cap HMb.out (by rw [HE1.out, he]) HE2.out HE3.out hcap hu hnew hR hown' me hvn)
        clear hcap hu hR hnew hown' me hvn hgr hvv hownB
        go_wp2_with fail
        go_roundw
        case rel => exact ⟨j + 1, _, r', v', rfl, by omega, HNext.out⟩
        case measure =>
          have h1 := HIp.out
          have h2 := itPos_eq HNext.out.itr
          rw [h1, h2]
          omega
      · unfold fieldV at HRj
        go_wp2_with fail
        go_at_call 127
        refine HRj.out.mono ?_
        rintro e' wb ⟨mb, hb⟩
        rcases hb with ⟨_, rfl⟩ | ⟨hb, _⟩
        case inr => exact absurd hb he
        have hwb : Below w.heap.size w wb := HBa.out.trans (mb.below HBa.out.size fun i hi => Nat.le_of_eq hi.symm)
        have HWb := Lib.hid hwb
        have q0 : (er != 0) = true := by rw [bne_iff_ne]; exact he
        have HIj := Lib.hid (HI.out j (by omega))
        have HOj := Lib.hid (HO.out (placeB j) er he)
        have HNz := Lib.hid he
        have HFl := Lib.hid (HFail.out (by rw [HE1.out]; exact he))
        clear hwb mb HRj hownA he HFail HRd HStep
        obtain ⟨PB, hPB⟩ : ∃ PB, PB = placeB j := ⟨_, rfl⟩
        have HPB := Lib.hid hPB
        rw [← hPB] at HIj HOj
        clear hPB
        have HWc : Hid (∀ (o : Obj) (W : World), Below (wb.alloc o).heap.size (wb.alloc o) W → Below w.heap.size w W) := fun o W b => (HWb.out.alloc HWb.out.size o).trans (b.mono (HWb.out.alloc HWb.out.size o).size)
        go_wp2_with (first
          | (go_at_call 128; refine (HIj.out _).mono ?_; rintro e' w5 ⟨rfl, hw5⟩; have hw5 := hw5.symm; subst hw5)
          | (go_at_call 80; refine (HOj.out _).mono ?_; rintro e' w6 ⟨t, u, rfl, hE, b6⟩))
        try simp only [Exit.inBlock, Exit.then]
        go_ret2
        refine ⟨HWc.out _ _ b6, .inl ?_⟩
        rw [HFl.out]
        exact ⟨by rw [HE1.out]; exact HNz.out, _, t, u, rfl, by rw [HE1.out, ← HPB.out]; exact hE⟩
    · have hjF : j = F.length := by omega
      have hnx := HNe.out wr it (by rw [← hjF]; exact hinv.itr)
      have HAll := Lib.hid (RdTo.all (by rw [← hjF]; exact hinv.rd))
      have HEnd := Lib.hid (end_any hinv.at_)
      have HFs : Hid (FieldsKept wr v (l.map (·.1)) w.heap.size) := FieldsKept.ofRow hinv.own hinv.lists (by rw [hinv.len]; omega) fun p hp hne b hb => (hinv.far p hp hne b hb).2.2.2
      have HBel := Lib.hid hinv.bel
      clear hinv hlt hjF HRd
      by_cases hz : endP r 0 = 0
      · rw [hz] at HEnd
        have HZ := Lib.hid (fun W => fOf_zero endS W)
        unfold endS at HZ
        have HNz := Lib.hid hz
        clear hz
        go_wp2_with (first
          | (go_at_call 129; refine HEnd.out.mono ?_; rintro e' w5 ⟨rfl, hw5⟩; have hw5 := hw5.symm; subst hw5)
          | (go_at_call 80; refine (HZ.out _).mono ?_; rintro e' w6 ⟨rfl, hw6⟩; have hw6 := hw6.symm; subst hw6))
        try simp only [Exit.inBlock, Exit.then]
        go_ret2
        refine ⟨HBel.out, .inr (.inr ?_)⟩
        rw [HAll.out]
        exact ⟨rfl, HNz.out, v, rfl, HFs.out⟩
      · have HOe := Lib.hid (HO.out endS _ hz)
        unfold endS at HOe
        have HNz := Lib.hid hz
        obtain ⟨E, hE⟩ : ∃ E, E = endP r 0 := ⟨_, rfl⟩
        have HE := Lib.hid hE
        rw [← hE] at HEnd HOe
        clear hz hE
        go_wp2_with (first
          | (go_at_call 129; refine HEnd.out.mono ?_; rintro e' w5 ⟨rfl, hw5⟩; have hw5 := hw5.symm; subst hw5)
          | (go_at_call 80; refine (HOe.out _).mono ?_; rintro e' w6 ⟨t, u, rfl, hE6, b6⟩))
        try simp only [Exit.inBlock, Exit.then]
        go_ret2
        refine ⟨HBel.out.trans (b6.mono HBel.out.size), .inr (.inl ?_)⟩
        rw [HAll.out]
        exact ⟨rfl, HNz.out, _, t, u, rfl, by show ErrAt _ _ _ (some (endP r 0)); rw [← HE.out]; exact hE6⟩
end Go.Proofs.YtlalkpgipenkaaaGreatDoor
