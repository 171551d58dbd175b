/- Part 32 of what the statement wants. -/
import Derived.Test.YtgoinpibllomfaaDoorPk20
import Derived.Test.YtgoinpibllomfaaDoorPk22
import Derived.Test.YtgoinpibllomfaaDoorPk31
namespace Go.Proofs.YtgoinpibllomfaaDoor
open Go.RowKit

/-- A slice's row lies from B on, in no box, and is long enough. -/
def RowW25 (w : World) (B E : Nat) (t : TypeId) (m n : Nat) (a : Option Addr) : Prop := n ≠ 0 → ∃ b off cur, a = some ⟨b, off, none⟩ ∧ B ≤ b ∧ b ≠ E ∧ Holds w b t cur ∧ off + m * n ≤ cur.size
theorem RowW25.set {w : World} {B E : Nat} {t : TypeId} {m n : Nat} {a : Option Addr} (h : RowW25 w B E t m n a) (pb pi : Nat) (x : Value) : RowW25 (w.setCell ⟨pb, pi, none⟩ x) B E t m n a := fun hn => by
  obtain ⟨b, off, cur, e, h1, h2, h3, h4⟩ := h hn
  by_cases hb : b = pb
  · subst hb
    exact ⟨b, off, _, e, h1, h2, h3.set pi x, by rw [Array.size_setIfInBounds]; exact h4⟩
  · exact ⟨b, off, cur, e, h1, h2, (heap_setCell_other w ⟨pb, pi, none⟩ b x hb).trans h3, h4⟩
theorem RowW25.of {w : World} {B : Nat} {t : TypeId} {m n : Nat} {a : Option Addr} {b off : Nat} (e : a = some ⟨b, off, none⟩) (hB : B ≤ b) (hh : ∃ cur, Holds w b t cur) (hm : 0 < m) (hc : n ≠ 0 → ∃ x, w.cell? ⟨b, off + (m * n - 1), none⟩ = some x) : RowW25 w B w.heap.size t m n a := fun hn => by
  obtain ⟨cur, hcur⟩ := hh
  obtain ⟨x, hx⟩ := hc hn
  rw [hcur.cell] at hx
  have h1 := (Array.getElem?_eq_some_iff.1 hx).1
  have h2 : 0 < m * n := Nat.mul_pos hm (by omega)
  exact ⟨b, off, cur, e, hB, Nat.ne_of_lt hcur.lt, hcur, by omega⟩
theorem RowW25.nil {w : World} {B E : Nat} {t : TypeId} {m : Nat} {a : Option Addr} : RowW25 w B E t m 0 a := fun h => absurd rfl h
theorem rowW_texts25 {w : World} {B n c : Nat} {a : Option Addr} {l : List ByteArray} (h : TextsAt w (.slice a n c) l) (ho : l ≠ [] → ∀ b, (Value.slice a n c).ownBlock = some b → B ≤ b ∧ ∃ cur, Holds w b 9 cur) : RowW25 w B w.heap.size 9 1 n a := by
  obtain ⟨ao, cap, e, hc⟩ := h
  injection e with e1 e2 e3
  subst e1 e2 e3
  by_cases hl : l = []
  · subst hl; exact RowW25.nil
  · obtain ⟨b, off, e, hb, hx⟩ := hc hl
    subst e
    obtain ⟨h1, h2⟩ := ho hl b rfl
    refine RowW25.of rfl h1 h2 (by omega) fun hn => ?_
    have hlt : l.length - 1 < l.length := by omega
    exact ⟨_, by rw [show off + (1 * l.length - 1) = off + (l.length - 1) by omega]; exact hx (l.length - 1) _ (List.getElem?_eq_getElem hlt)⟩
theorem rowW_ids25 {w : World} {B n c : Nat} {a : Option Addr} {l : List Int} (h : IdsAt w (.slice a n c) l) (ho : OwnFrom w B 3 (.slice a n c)) : RowW25 w B w.heap.size 3 1 n a := by
  obtain ⟨ao, cap, e, hc⟩ := h
  injection e with e1 e2 e3
  subst e1 e2 e3
  by_cases hl : l = []
  · subst hl; exact RowW25.nil
  · obtain ⟨b, off, e, hb, hx⟩ := hc hl
    subst e
    obtain ⟨h1, h2⟩ := ho b rfl
    refine RowW25.of rfl h1 h2 (by omega) fun hn => ?_
    have hlt : l.length - 1 < l.length := by omega
    exact ⟨_, by rw [show off + (1 * l.length - 1) = off + (l.length - 1) by omega]; exact hx (l.length - 1) _ (List.getElem?_eq_getElem hlt)⟩
theorem rowW_grants25 {w : World} {B n c : Nat} {a : Option Addr} {l : List GrantR} (h : GrantsAt w (.slice a n c) l) (ho : OwnFrom w B 62 (.slice a n c)) : RowW25 w B w.heap.size 62 2 n a := by
  obtain ⟨ao, cap, e, hc⟩ := h
  injection e with e1 e2 e3
  subst e1 e2 e3
  by_cases hl : l = []
  · subst hl; exact RowW25.nil
  · obtain ⟨b, off, e, hb, hx⟩ := hc hl
    subst e
    obtain ⟨h1, h2⟩ := ho b rfl
    refine RowW25.of rfl h1 h2 (by omega) fun hn => ?_
    have hlt : l.length - 1 < l.length := by omega
    exact ⟨_, by rw [show off + (2 * l.length - 1) = off + (l.length - 1) * 2 + 1 by omega]; exact (hx (l.length - 1) _ (List.getElem?_eq_getElem hlt)).2⟩
/-- A copy that is written on: nothing before it turns, its box stands, its rows are its own. -/
structure Mine25 (W : World) (B E : Nat) (c : CfV) (wr : World) : Prop where
  bel : Below B W wr
  box : Holds wr E 51 c.row
  al : RowW25 wr B E 9 1 c.na c.aa
  gr : RowW25 wr B E 62 2 c.ng c.ag
  ks : RowW25 wr B E 3 1 c.nk c.ak
  ho : RowW25 wr B E 9 1 c.n1 c.a1
theorem Mine25.set {W : World} {B E : Nat} {c : CfV} {wr : World} (h : Mine25 W B E c wr) {b : Nat} (hb : B ≤ b) (hE : b ≠ E) (i : Nat) (x : Value) : Mine25 W B E c (wr.setCell ⟨b, i, none⟩ x) :=
  ⟨below_setCell25 h.bel hb x, (heap_setCell_other wr ⟨b, i, none⟩ E x (Ne.symm hE)).trans h.box, h.al.set _ _ x, h.gr.set _ _ x, h.ks.set _ _ x, h.ho.set _ _ x⟩
theorem Mine25.start {W w : World} {B K : Nat} {c c2 : CfV} {d : CfL} (hb : Below B W w) (h : CopyOf c d K w c2) (hK : B ≤ K) (hB : B ≤ w.heap.size) : Mine25 W B w.heap.size c2 (w.alloc (.cells c2.row 51)) := by
  have up : ∀ {t : TypeId} {m n : Nat} {a : Option Addr}, RowW25 w B w.heap.size t m n a → RowW25 (w.alloc (.cells c2.row 51)) B w.heap.size t m n a := fun h hn => by
    obtain ⟨b, off, cur, e, h1, h2, h3, h4⟩ := h hn
    exact ⟨b, off, cur, e, h1, h2, (((Below.refl w.heap.size w).alloc (Nat.le_refl _) _).block _ h3.lt).trans h3, h4⟩
  refine ⟨hb.alloc hB _, Holds.new w _ _, up (rowW_texts25 h.at_.al fun _ => h.al.mono hK), up (rowW_grants25 h.at_.gr (h.gr.mono hK)), up (rowW_ids25 h.at_.ks (h.ks.mono hK)), up (rowW_texts25 (c := c2.c1) (h.at_.pf 1 (by omega)) fun hne b hv => ⟨Nat.le_trans hK (h.pn 1 (by omega) (fun e => hne (by rw [e]; rfl)) b hv), (h.pf 1 (by omega)).2 hne b hv⟩)⟩
theorem plain_len25 (b : Bool) : (∀ k < 8, ((plainD b).p k).length ≤ 1000) ∧ (plainD b).al.length ≤ 1000 ∧ (plainD b).gr.length ≤ 1000 ∧ (plainD b).ks.length ≤ 1000 := by
  refine ⟨fun k hk => ?_, by cases b <;> decide, by cases b <;> decide, by cases b <;> decide⟩
  have h : k = 0 ∨ k = 1 ∨ k = 2 ∨ k = 3 ∨ k = 4 ∨ k = 5 ∨ k = 6 ∨ k = 7 := by omega
  rcases h with rfl | rfl | rfl | rfl | rfl | rfl | rfl | rfl <;> cases b <;> decide
theorem same25_plain {w : World} {p q : CfV} {b : Bool} {host : Int} (hp : CfAt w p (plainD b)) (hq : CfAt w q (plainD b)) (vp : PlainV b host p) (vq : PlainV b host q) : Calls Tryd.prog 24 #[.agg p.row, .agg q.row] w fun e w' => e = .returned (.bool true) ∧ Below w.heap.size w w' :=
  same25_any hp hq ⟨vq.sv.trans vp.sv.symm, hq.so.trans hp.so.symm, hq.co.trans hp.co.symm, vq.ow.trans vp.ow.symm, vq.li.trans vp.li.symm, vq.pe.trans vp.pe.symm, hq.us.trans hp.us.symm, vq.ex.trans vp.ex.symm, vq.gu.trans vp.gu.symm, vq.w0.trans vp.w0.symm, vq.w1.trans vp.w1.symm, vq.w2.trans vp.w2.symm⟩ (plain_len25 b).1 (plain_len25 b).2.1 (plain_len25 b).2.2.1 (plain_len25 b).2.2.2
theorem check_plain25 {w : World} (hT : Tab15 w) {p : CfV} {b : Bool} {host : Int} (hp : CfAt w p (plainD b)) (vp : PlainV b host p) : Calls Tryd.prog 27 #[.agg p.row] w fun e w' => (if whoB host = true then e = .returned .nilIface else ∃ t u, e = .returned (.iface t u)) ∧ Below w.heap.size w w' := by
  have h := cfCheck_any hT hp (plain_sized25 b)
  cases b with
  | true =>
    rw [confO_srv vp] at h
    cases hw : whoB host with
    | true => rw [hw] at h; exact h.mono fun e w' ⟨v, h1, h2, h3⟩ => ⟨by rw [if_pos rfl, h1, show v = .nilIface from h2], h3⟩
    | false => rw [hw] at h; exact h.mono fun e w' ⟨v, h1, ⟨t, u, h2, _⟩, h3⟩ => ⟨by rw [if_neg (by simp)]; exact ⟨t, u, by rw [h1, h2]⟩, h3⟩
  | false =>
    rw [confO_cli vp] at h
    cases hw : whoB host with
    | true => rw [hw] at h; exact h.mono fun e w' ⟨v, h1, h2, h3⟩ => ⟨by rw [if_pos rfl, h1, show v = .nilIface from h2], h3⟩
    | false => rw [hw] at h; exact h.mono fun e w' ⟨v, h1, ⟨t, u, h2, _⟩, h3⟩ => ⟨by rw [if_neg (by simp)]; exact ⟨t, u, by rw [h1, h2]⟩, h3⟩
end Go.Proofs.YtgoinpibllomfaaDoor
