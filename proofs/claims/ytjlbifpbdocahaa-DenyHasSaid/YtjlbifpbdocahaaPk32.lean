/- Part 32 of what the statement wants. -/
import Derived.Deep.Strs
import Derived.OpenShut
import Derived.WideKeyArgs
import Derived.Deep.Slices
import Derived.Test.YtjlbifpbdocahaaPk00
import Derived.Test.YtjlbifpbdocahaaPk01
import Derived.Test.YtjlbifpbdocahaaPk03
namespace Go.Proofs.Ytjlbifpbdocahaa
open Go.RowKit

/-- Preferences: eight lists. -/
def PrefsAt (w : World) (v : Value) (p : Nat → List (List UInt8)) : Prop :=
  ∃ u : Nat → Value, v = .agg #[u 0, u 1, u 2, u 3, u 4, u 5, u 6, u 7] ∧ ∀ k < 8, TextsAt w (u k) ((p k).map bs)
theorem PrefsAt.below {w w' : World} {v : Value} {p : Nat → List (List UInt8)} (h : PrefsAt w v p) (hb : Below w.heap.size w w') : PrefsAt w' v p := by
  obtain ⟨u, rfl, h⟩ := h
  exact ⟨u, rfl, fun k hk => (h k hk).below hb⟩
/-- A slice of lists. -/
def Lists15 (w : World) (v : Value) (n : Nat) (p : Nat → List (List UInt8)) : Prop :=
  ∃ b off cap, v = .slice (some ⟨b, off, none⟩) n cap ∧ n ≤ cap ∧ b < w.heap.size ∧ ∀ k < n, ∃ u, w.cell? ⟨b, off + k, none⟩ = some u ∧ TextsAt w u ((p k).map bs)
theorem Lists15.below {w w' : World} {v : Value} {n : Nat} {p : Nat → List (List UInt8)} (h : Lists15 w v n p) (hb : Below w.heap.size w w') : Lists15 w' v n p := by
  obtain ⟨b, off, cap, rfl, hc, hlt, h⟩ := h
  refine ⟨b, off, cap, rfl, hc, Nat.lt_of_lt_of_le hlt hb.size, fun k hk => ?_⟩
  obtain ⟨u, h1, h2⟩ := h k hk
  exact ⟨u, (hb.cell (p := ⟨b, off + k, none⟩) hlt).trans h1, h2.below hb⟩
def Room15 (v : Value) : Prop := ∀ a n c, v = .slice a n c → n ≤ c
end Go.Proofs.Ytjlbifpbdocahaa

namespace Go.Proofs.Ytjlbifpbdocahaa
open Go.RowKit Go.WideShapes Go.ChangeShapes Go.Deep
section
variable {H : Type} {enc : TypeId × Value → H} {w : World} {base : Nat}
set_option maxRecDepth 100000 in
theorem cellsStr15 : Try.prog.cellsOf 9 = 1 := by kernel_rfl
set_option maxRecDepth 100000 in
theorem texts_cell {c : Value} {fuel : Nat} {d : DataW H} {p : List MemPlace} (hf : DataW.trod enc Try.prog w base (fun _ => true) true fuel 29 [c] = some (d, p)) :
    ∃ l : List ByteArray, TextsAt w c l ∧ l.length ≤ maxLen ∧ (∀ x ∈ l, x.size ≤ maxLen) ∧ Room15 c := by
  rcases open_strs Try.underlying29 Try.underlying9 cellsStr15 hf with ⟨h1, _⟩ | ⟨a, len, cap, m, Sx, h1, hb, hl, hc, hm, hx, hi⟩
  · simp only [List.cons.injEq, and_true] at h1
    rw [h1]
    exact ⟨[], ⟨none, 0, rfl, fun h => absurd rfl h⟩, by simp, by simp, fun _ _ _ e => by injection e with _ e2 e3; omega⟩
  · simp only [List.cons.injEq, and_true] at h1
    have hmc : m = cap := by simpa using hm
    rw [h1]
    have hlc : Room15 (.slice (some a) len cap) := fun _ _ _ e => by
      injection e with _ e2 e3
      omega
    rcases Nat.eq_zero_or_pos len with h0 | h0
    · subst h0
      exact ⟨[], ⟨some a, cap, rfl, fun h => absurd rfl h⟩, by simp, by simp, hlc⟩
    · obtain ⟨b, off, spot⟩ := a
      have hspot : spot = none := by simpa [Addr.add] using World.cell?_spot (hi 0 (by omega)).1
      subst hspot
      have hblk := World.block_lt_of_cell? w _ (hi 0 (by omega)).1
      simp only [Addr.add_lit] at hi hblk
      refine ⟨(List.range len).map Sx, ⟨some ⟨b, off, none⟩, cap, by simp, fun _ => ⟨b, off, rfl, hblk, fun k x hk => ?_⟩⟩, by simp; omega, ?_, hlc⟩
      · rw [List.getElem?_map] at hk
        by_cases hkl : k < len
        · rw [List.getElem?_range hkl] at hk
          simp only [Option.map_some, Option.some.injEq] at hk
          rw [← hk]
          exact (hi k (by omega)).1
        · rw [List.getElem?_eq_none (by simp; omega)] at hk
          simp at hk
      · intro x hx'
        obtain ⟨k, hk, rfl⟩ := List.mem_map.1 hx'
        exact (hi k (by have := List.mem_range.1 hk; omega)).2
theorem texts_cell2 {c : Value} {fuel : Nat} {d : DataW H} {p : List MemPlace} (hf : DataW.trod enc Try.prog w base (fun _ => true) true fuel 29 [c] = some (d, p)) :
    ∃ l : List (List UInt8), TextsAt w c (l.map bs) ∧ l.length ≤ maxLen ∧ (∀ x ∈ l, x.length ≤ maxLen) ∧ Room15 c := by
  obtain ⟨l, h1, h2, h3, h4⟩ := texts_cell hf
  have e : (l.map fun x => x.data.toList).map bs = l := by
    rw [List.map_map]
    conv => rhs; rw [← List.map_id l]
    exact List.map_congr_left fun x _ => bs_list x
  refine ⟨l.map fun x => x.data.toList, by rw [e]; exact h1, by rw [List.length_map]; exact h2, fun x hx => ?_, h4⟩
  obtain ⟨y, hy, rfl⟩ := List.mem_map.1 hx
  have := h3 y hy
  rw [Array.length_toList]
  exact this
end
end Go.Proofs.Ytjlbifpbdocahaa

namespace Go.Proofs.Ytjlbifpbdocahaa
open Go.RowKit Go.WideShapes Go.ChangeShapes Go.Deep
section
variable {H : Type} {enc : TypeId × Value → H} {w : World} {base : Nat}
set_option maxRecDepth 100000 in
theorem cellsInt24 : Try.prog.cellsOf 3 = 1 := by kernel_rfl
set_option maxRecDepth 100000 in
theorem cellsStr24 : Try.prog.cellsOf 9 = 1 := by kernel_rfl
set_option maxRecDepth 100000 in
theorem cellsGrant : Try.prog.cellsOf 68 = 2 := by kernel_rfl
set_option maxRecDepth 100000 in
theorem cellsGrants : Try.prog.cellsOf 45 = 1 := by kernel_rfl
set_option maxRecDepth 100000 in
theorem cellsBook : Try.prog.cellsOf 47 = 3 := by kernel_rfl

set_option maxRecDepth 100000 in
theorem grants_cell {c : Value} {fuel : Nat} {d : DataW H} {p : List MemPlace} (hf : DataW.trod enc Try.prog w base (fun _ => true) true fuel 45 [c] = some (d, p)) :
    ∃ l : List GrantR, GrantsAt w c l ∧ l.length ≤ maxLen ∧ ∀ x ∈ l, x.user.length ≤ maxLen := by
  rcases open_slice Try.underlying45 hf with ⟨h1, _⟩ | ⟨a, len, cap, m, k, D, Pl, h1, hb, hl, hc, hm, hx, hi⟩
  · simp only [List.cons.injEq, and_true] at h1
    rw [h1]
    exact ⟨[], ⟨none, 0, rfl, fun h => absurd rfl h⟩, by simp, by simp⟩
  · simp only [List.cons.injEq, and_true] at h1
    have hmc : m = cap := by simpa using hm
    have each : ∀ i, i < len → ∃ q : GrantR, (w.cell? (a.add (i * 2)) = some (.string (bs q.user)) ∧ w.cell? (a.add (i * 2 + 1)) = some (.int .i64 q.who)) ∧ q.user.length ≤ maxLen := by
      intro i hil
      obtain ⟨cs', hcs, ht⟩ := hi i (by omega)
      rw [cellsGrant] at hcs
      obtain ⟨hb2, hlen, hat⟩ := World.cells?_some hcs
      obtain ⟨xs, m', _, _, _, hxl, hxs⟩ := DataW.trod_struct Try.underlying68 ht
      match cs', hlen with
      | [c0, c1], _ =>
        have t0 : DataW.trod enc Try.prog w base _ _ m' 9 ((([c0, c1] : List Value).drop 0).take (Try.prog.cellsOf 9)) = xs[0]? := hxs 0 _ rfl
        have t1 : DataW.trod enc Try.prog w base _ _ m' 3 ((([c0, c1] : List Value).drop 1).take (Try.prog.cellsOf 3)) = xs[1]? := hxs 1 _ rfl
        simp only [cellsInt24, cellsStr24] at t0 t1
        match xs, hxl with
        | [y0, y1], _ =>
          simp at t0 t1
          obtain ⟨z0, e0, _, hz⟩ := DataW.trod_string Try.underlying9 t0
          obtain ⟨z1, e1, _, _⟩ := DataW.trod_int Try.underlying3 t1
          simp at e0 e1
          subst e0 e1
          have a0 := hat 0 (by omega)
          have a1 := hat 1 (by omega)
          simp only [Go.Deep.add_add, Nat.add_zero] at a0 a1
          exact ⟨⟨z0.data.toList, z1⟩, ⟨by rw [bs_list]; simpa using a0, by simpa using a1⟩, by simpa using hz⟩
    rcases Nat.eq_zero_or_pos len with h0 | h0
    · subst h0
      rw [h1]
      exact ⟨[], ⟨some a, cap, rfl, fun h => absurd rfl h⟩, by simp, by simp⟩
    · haveI : Inhabited GrantR := ⟨⟨[], 0⟩⟩
      obtain ⟨q, hq⟩ := choose_lt each
      obtain ⟨b, off, spot⟩ := a
      have hspot : spot = none := by simpa [Addr.add] using World.cell?_spot (hq 0 h0).1.1
      subst hspot
      have hblk := World.block_lt_of_cell? w _ (hq 0 h0).1.1
      simp only [Addr.add_lit] at hq hblk
      refine ⟨(List.range len).map q, ⟨some ⟨b, off, none⟩, cap, by rw [h1]; simp, fun _ => ⟨b, off, rfl, hblk, fun k pr hk => ?_⟩⟩, by simp; omega, fun x hx => ?_⟩
      · rw [List.getElem?_map] at hk
        by_cases hkl : k < len
        · rw [List.getElem?_range hkl] at hk
          simp at hk
          subst hk
          have := (hq k hkl).1
          simp only [← Nat.add_assoc] at this
          exact this
        · rw [List.getElem?_eq_none (by simpa using hkl)] at hk
          simp at hk
      · obtain ⟨k, hk, rfl⟩ := List.mem_map.1 hx
        exact (hq k (by simpa using hk)).2

set_option maxRecDepth 100000 in
theorem open_book {v : Value} {d : DataW H} {p : List MemPlace} {b0 : Nat} (hv : Value.okWide Try.prog w .any b0 47 v) (h : DataW.Trod enc Try.prog w base (fun _ => true) true 47 v d p) :
    ∃ (vg va : Value) (lim : Int) (l : List GrantR) (al : List (List UInt8)), v = .agg #[vg, va, .int .i64 lim] ∧ GrantsAt w vg l ∧ l.length ≤ maxLen ∧ (∀ x ∈ l, x.user.length ≤ maxLen) ∧ TextsAt w va (al.map bs) ∧ al.length ≤ maxLen ∧ (∀ x ∈ al, x.length ≤ maxLen) ∧ Room15 va := by
  obtain ⟨cs, rfl, hcs⟩ := okWide_struct Try.underlying47 hv
  obtain ⟨fuel, hf⟩ := h
  obtain ⟨xs, m', _, hxe, hlen, hxl, hxs⟩ := DataW.trod_struct Try.underlying47 hf
  rw [cellsBook] at hlen
  obtain ⟨l⟩ := cs
  simp only [Value.cells] at hlen hxs
  match l, hlen with
  | [c0, c1, c2], _ =>
    have t0 : DataW.trod enc Try.prog w base _ _ m' 45 ((([c0, c1, c2] : List Value).drop 0).take (Try.prog.cellsOf 45)) = xs[0]? := hxs 0 _ rfl
    have t1 : DataW.trod enc Try.prog w base _ _ m' 29 ((([c0, c1, c2] : List Value).drop 1).take (Try.prog.cellsOf 29)) = xs[1]? := hxs 1 _ rfl
    have t2 : DataW.trod enc Try.prog w base _ _ m' 3 ((([c0, c1, c2] : List Value).drop 2).take (Try.prog.cellsOf 3)) = xs[2]? := hxs 2 _ rfl
    rw [cellsGrants] at t0
    rw [show Try.prog.cellsOf 29 = 1 from by kernel_rfl] at t1
    rw [cellsInt24] at t2
    match xs, hxl with
    | [y0, y1, y2], _ =>
      simp at t0 t1 t2
      obtain ⟨gl, g1, g2, g3⟩ := grants_cell t0
      obtain ⟨al, a1, a2, a3, a4⟩ := texts_cell2 t1
      obtain ⟨z, e2, _, _⟩ := DataW.trod_int Try.underlying3 t2
      simp at e2
      subst e2
      exact ⟨c0, c1, z, gl, al, rfl, g1, g2, g3, a1, a2, a3, a4⟩
end
end Go.Proofs.Ytjlbifpbdocahaa

namespace Go.Proofs.Ytjlbifpbdocahaa
open Go.RowKit Go.WideShapes Go.ChangeShapes Go.Deep
theorem okWide_arr24 {P : Program} {w : World} {r : Reach} {b0 : Nat} {t e : TypeId} {n : Nat} {v : Value} (ht : P.underlying t = some (.array n e)) (h : Value.okWide P w r b0 t v) : ∃ cs, v = .agg cs := by
  simp only [Value.okWide, ht] at h
  obtain ⟨cs, h1, _⟩ := h
  exact ⟨cs, h1⟩
section
variable {H : Type} {enc : TypeId × Value → H} {w : World} {base : Nat} {spare : Nat → Bool} {held : Bool}
set_option maxRecDepth 100000 in
theorem cellsStrN : Try.prog.cellsOf 9 = 1 := by kernel_rfl
set_option maxRecDepth 100000 in
theorem cellsNames2 : Try.prog.cellsOf 48 = 2 := by kernel_rfl
set_option maxRecDepth 100000 in
theorem open_names2 {v : Value} {d : DataW H} {p : List MemPlace} (h : DataW.Trod enc Try.prog w base spare held 48 v d p) (hv : ∃ cs, v = .agg cs) : ∃ s0 s1 : ByteArray, s0.size ≤ maxLen ∧ s1.size ≤ maxLen ∧ v = .agg #[.string s0, .string s1] := by
  obtain ⟨cs, rfl⟩ := hv
  obtain ⟨fuel, hf⟩ := h
  obtain ⟨xs, m', _, _, hlen, hxl, hxs⟩ := DataW.trod_array Try.underlying48 hf
  rw [cellsNames2] at hlen
  obtain ⟨l⟩ := cs
  simp only [Value.cells] at hlen hxs
  match l, hlen with
  | [c0, c1], _ =>
    have t0 := hxs 0 (by omega)
    have t1 := hxs 1 (by omega)
    simp only [cellsStrN] at t0 t1
    match xs, hxl with
    | [y0, y1], _ =>
      simp at t0 t1
      obtain ⟨z0, e0, _, w0⟩ := DataW.trod_string Try.underlying9 t0
      obtain ⟨z1, e1, _, w1⟩ := DataW.trod_string Try.underlying9 t1
      simp at e0 e1
      subst e0 e1
      exact ⟨z0, z1, by simpa using w0, by simpa using w1, rfl⟩
end
end Go.Proofs.Ytjlbifpbdocahaa
