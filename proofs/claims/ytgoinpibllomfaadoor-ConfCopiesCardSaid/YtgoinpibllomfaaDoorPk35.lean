/- Part 35 of what the statement wants. -/
import Derived.Deep.Slices
import Derived.Test.YtgoinpibllomfaaDoorPk01
import Derived.Test.YtgoinpibllomfaaDoorPk34
namespace Go.Proofs.YtgoinpibllomfaaDoor
open Go.RowKit Go.WideShapes Go.ChangeShapes Go.Deep
section
variable {H : Type} {enc : TypeId × Value → H} {w : World} {base : Nat}
set_option maxRecDepth 100000 in
theorem cellsInt24 : Tryd.prog.cellsOf 3 = 1 := by kernel_rfl
set_option maxRecDepth 100000 in
theorem cellsStr24 : Tryd.prog.cellsOf 9 = 1 := by kernel_rfl
set_option maxRecDepth 100000 in
theorem cellsGrant : Tryd.prog.cellsOf 62 = 2 := by kernel_rfl
set_option maxRecDepth 100000 in
theorem cellsGrants : Tryd.prog.cellsOf 22 = 1 := by kernel_rfl
set_option maxRecDepth 100000 in
theorem grants_cell {c : Value} {fuel : Nat} {d : DataW H} {p : List MemPlace} (hf : DataW.trod enc Tryd.prog w base (fun _ => true) true fuel 22 [c] = some (d, p)) :
    ∃ l : List GrantR, GrantsAt w c l ∧ l.length ≤ maxLen ∧ ∀ x ∈ l, x.user.length ≤ maxLen := by
  rcases open_slice Tryd.underlying22 hf with ⟨h1, _⟩ | ⟨a, len, cap, m, k, D, Pl, h1, hb, hl, hc, hm, hx, hi⟩
  · simp only [List.cons.injEq, and_true] at h1
    rw [h1]
    exact ⟨[], ⟨none, 0, rfl, fun h => absurd rfl h⟩, by simp, by simp⟩
  · simp only [List.cons.injEq, and_true] at h1
    have hmc : m = cap := by simpa using hm
    have each : ∀ i, i < len → ∃ q : GrantR, (w.cell? (a.add (i * 2)) = some (.string (bs q.user)) ∧ w.cell? (a.add (i * 2 + 1)) = some (.int .i64 q.who)) ∧ q.user.length ≤ maxLen := by
      intro i hil
      obtain ⟨cs', hcs, ht⟩ := hi i (by omega)
      rw [cellsGrant] at hcs
      obtain ⟨hb2, hlen, hat⟩ := World.cells?_some hcs
      obtain ⟨xs, m', _, _, _, hxl, hxs⟩ := DataW.trod_struct Tryd.underlying62 ht
      match cs', hlen with
      | [c0, c1], _ =>
        have t0 : DataW.trod enc Tryd.prog w base _ _ m' 9 ((([c0, c1] : List Value).drop 0).take (Tryd.prog.cellsOf 9)) = xs[0]? := hxs 0 _ rfl
        have t1 : DataW.trod enc Tryd.prog w base _ _ m' 3 ((([c0, c1] : List Value).drop 1).take (Tryd.prog.cellsOf 3)) = xs[1]? := hxs 1 _ rfl
        simp only [cellsInt24, cellsStr24] at t0 t1
        match xs, hxl with
        | [y0, y1], _ =>
          simp at t0 t1
          obtain ⟨z0, e0, _, hz⟩ := DataW.trod_string Tryd.underlying9 t0
          obtain ⟨z1, e1, _, _⟩ := DataW.trod_int Tryd.underlying3 t1
          simp at e0 e1
          subst e0 e1
          have a0 := hat 0 (by omega)
          have a1 := hat 1 (by omega)
          simp only [Go.Deep.add_add, Nat.add_zero] at a0 a1
          exact ⟨⟨z0.data.toList, z1⟩, ⟨by rw [bs_list]; simpa using a0, by simpa using a1⟩, by simpa using hz⟩
    rcases Nat.eq_zero_or_pos len with h0 | h0
    · subst h0
      rw [h1]
      exact ⟨[], ⟨some a, cap, rfl, fun h => absurd rfl h⟩, by simp, by simp⟩
    · haveI : Inhabited GrantR := ⟨⟨[], 0⟩⟩
      obtain ⟨q, hq⟩ := choose_lt each
      obtain ⟨b, off, spot⟩ := a
      have hspot : spot = none := by simpa [Addr.add] using World.cell?_spot (hq 0 h0).1.1
      subst hspot
      have hblk := World.block_lt_of_cell? w _ (hq 0 h0).1.1
      simp only [Addr.add_lit] at hq hblk
      refine ⟨(List.range len).map q, ⟨some ⟨b, off, none⟩, cap, by rw [h1]; simp, fun _ => ⟨b, off, rfl, hblk, fun k pr hk => ?_⟩⟩, by simp; omega, fun x hx => ?_⟩
      · rw [List.getElem?_map] at hk
        by_cases hkl : k < len
        · rw [List.getElem?_range hkl] at hk
          simp at hk
          subst hk
          have := (hq k hkl).1
          simp only [← Nat.add_assoc] at this
          exact this
        · rw [List.getElem?_eq_none (by simpa using hkl)] at hk
          simp at hk
      · obtain ⟨k, hk, rfl⟩ := List.mem_map.1 hx
        exact (hq k (by simpa using hk)).2

end
end Go.Proofs.YtgoinpibllomfaaDoor
