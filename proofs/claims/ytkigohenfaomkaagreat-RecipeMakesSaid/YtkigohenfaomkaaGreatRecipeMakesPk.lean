/- The statement RecipeMakes is proved: for every list of makes, every number and every list of steps the call returns true and leaves its arguments as they were; no condition. -/
import Derived.Test.YtkigohenfaomkaaGreatRows
import Derived.WalkKit
import Derived.ProofKit
import Derived.OpenShut
import Derived.Test.YtkigohenfaomkaaGreatPk00
import Derived.Test.YtkigohenfaomkaaGreatPk44
namespace Go.Proofs.YtkigohenfaomkaaGreat.recipeMakes
open Go.ChangeShapes Go.WideShapes Go.ChangeAt Go.RowKit Go.Deep
open Go.ChangeMaps (open_string)

section
variable {H : Type} {enc : TypeId × Value → H} {w : World} {base : Nat} {spare : Nat → Bool} {held : Bool}
set_option maxRecDepth 100000 in
theorem cellsOp : Tryz.prog.cellsOf 43 = 5 := by kernel_rfl

set_option maxRecDepth 100000 in
theorem open_ops {v : Value} {d : DataW H} {p : List MemPlace} {b0 : Nat} (hv : Value.okWide Tryz.prog w .any b0 23 v) (h : DataW.Trod enc Tryz.prog w base (fun _ => true) true 23 v d p) :
    ∃ l : List OpR, OpsAt w v l ∧ l.length ≤ maxLen ∧ ∀ x ∈ l, x.s.length ≤ maxLen := by
  obtain ⟨ao, n, c, rfl⟩ := okWide_slice Tryz.underlying23 hv
  obtain ⟨fuel, hf⟩ := h
  rcases open_slice Tryz.underlying23 (by simpa [Value.cells] using hf) with ⟨h1, _⟩ | ⟨a, len, cap, m, k, D, Pl, h1, hb, hl, hc, hm, hx, hi⟩
  · simp only [List.cons.injEq, and_true] at h1
    rw [h1]
    exact ⟨[], ⟨none, 0, rfl, fun h => absurd rfl h⟩, by simp, by simp⟩
  · simp only [List.cons.injEq, and_true] at h1
    have hmc : m = cap := by simpa using hm
    have each : ∀ i, i < len → ∃ q : OpR, (w.cell? (a.add (i * 5)) = some (.int .i64 q.kind) ∧ w.cell? (a.add (i * 5 + 1)) = some (.int .i64 q.a) ∧ w.cell? (a.add (i * 5 + 2)) = some (.int .i64 q.b) ∧ w.cell? (a.add (i * 5 + 3)) = some (.int .i64 q.c) ∧ w.cell? (a.add (i * 5 + 4)) = some (.string (bs q.s))) ∧ q.s.length ≤ maxLen := by
      intro i hil
      obtain ⟨cs', hcs, ht⟩ := hi i (by omega)
      rw [cellsOp] at hcs
      obtain ⟨hb2, hlen, hat⟩ := World.cells?_some hcs
      obtain ⟨xs, m', _, _, _, hxl, hxs⟩ := DataW.trod_struct Tryz.underlying43 ht
      match cs', hlen with
      | [c0, c1, c2, c3, c4], _ =>
        have t0 : DataW.trod enc Tryz.prog w base _ _ m' 3 ((([c0, c1, c2, c3, c4] : List Value).drop 0).take (Tryz.prog.cellsOf 3)) = xs[0]? := hxs 0 _ rfl
        have t1 : DataW.trod enc Tryz.prog w base _ _ m' 3 ((([c0, c1, c2, c3, c4] : List Value).drop 1).take (Tryz.prog.cellsOf 3)) = xs[1]? := hxs 1 _ rfl
        have t2 : DataW.trod enc Tryz.prog w base _ _ m' 3 ((([c0, c1, c2, c3, c4] : List Value).drop 2).take (Tryz.prog.cellsOf 3)) = xs[2]? := hxs 2 _ rfl
        have t3 : DataW.trod enc Tryz.prog w base _ _ m' 3 ((([c0, c1, c2, c3, c4] : List Value).drop 3).take (Tryz.prog.cellsOf 3)) = xs[3]? := hxs 3 _ rfl
        have t4 : DataW.trod enc Tryz.prog w base _ _ m' 9 ((([c0, c1, c2, c3, c4] : List Value).drop 4).take (Tryz.prog.cellsOf 9)) = xs[4]? := hxs 4 _ rfl
        simp only [cellsInt1, cellsStrM] at t0 t1 t2 t3 t4
        match xs, hxl with
        | [y0, y1, y2, y3, y4], _ =>
          simp at t0 t1 t2 t3 t4
          obtain ⟨z0, e0, _, _⟩ := DataW.trod_int Tryz.underlying3 t0
          obtain ⟨z1, e1, _, _⟩ := DataW.trod_int Tryz.underlying3 t1
          obtain ⟨z2, e2, _, _⟩ := DataW.trod_int Tryz.underlying3 t2
          obtain ⟨z3, e3, _, _⟩ := DataW.trod_int Tryz.underlying3 t3
          obtain ⟨z4, e4, _, hz⟩ := DataW.trod_string Tryz.underlying9 t4
          simp at e0 e1 e2 e3 e4
          subst e0 e1 e2 e3 e4
          have a0 := hat 0 (by omega)
          have a1 := hat 1 (by omega)
          have a2 := hat 2 (by omega)
          have a3 := hat 3 (by omega)
          have a4 := hat 4 (by omega)
          simp only [Go.Deep.add_add, Nat.add_zero] at a0 a1 a2 a3 a4
          exact ⟨⟨z0, z1, z2, z3, z4.data.toList⟩, ⟨by simpa using a0, by simpa using a1, by simpa using a2, by simpa using a3, by rw [bs_list]; simpa using a4⟩, by simpa using hz⟩
    rcases Nat.eq_zero_or_pos len with h0 | h0
    · subst h0
      rw [h1]
      exact ⟨[], ⟨some a, cap, rfl, fun h => absurd rfl h⟩, by simp, by simp⟩
    · haveI : Inhabited OpR := ⟨⟨0, 0, 0, 0, []⟩⟩
      obtain ⟨q, hq⟩ := choose_lt each
      obtain ⟨b, off, spot⟩ := a
      have hspot : spot = none := by simpa [Addr.add] using World.cell?_spot (hq 0 h0).1.1
      subst hspot
      have hblk := World.block_lt_of_cell? w _ (hq 0 h0).1.1
      simp only [Addr.add_lit] at hq hblk
      refine ⟨(List.range len).map q, ⟨some ⟨b, off, none⟩, cap, by rw [h1]; simp, fun _ => ⟨b, off, rfl, hblk, fun k pr hk => ?_⟩⟩, by simp; omega, fun x hx => ?_⟩
      · rw [List.getElem?_map] at hk
        by_cases hkl : k < len
        · rw [List.getElem?_range hkl] at hk
          simp at hk
          subst hk
          have := (hq k hkl).1
          simp only [← Nat.add_assoc] at this
          exact this
        · rw [List.getElem?_eq_none (by simpa using hkl)] at hk
          simp at hk
      · obtain ⟨k, hk, rfl⟩ := List.mem_map.1 hx
        exact (hq k (by simpa using hk)).2

set_option maxRecDepth 100000 in
theorem ops_cap {v : Value} {d : DataW H} {p : List MemPlace} {b0 : Nat} (hv : Value.okWide Tryz.prog w .any b0 23 v) (h : DataW.Trod enc Tryz.prog w base (fun _ => true) true 23 v d p) : ∀ o n c, v = .slice o n c → n ≤ c ∧ c ≤ maxLen := by
  obtain ⟨ao, n, c, rfl⟩ := okWide_slice Tryz.underlying23 hv
  obtain ⟨fuel, hf⟩ := h
  intro o n' c' e
  injection e with e1 e2 e3
  subst e1 e2 e3
  rcases open_slice Tryz.underlying23 (by simpa [Value.cells] using hf) with ⟨h1, _⟩ | ⟨a, len, cap, m, k, D, Pl, h1, hb, hl, hc, hm, hx, hi⟩
  · simp only [List.cons.injEq, and_true] at h1
    injection h1 with h1 h2 h3
    subst h2 h3
    exact ⟨Nat.le_refl _, Nat.zero_le _⟩
  · simp only [List.cons.injEq, and_true] at h1
    injection h1 with h1 h2 h3
    subst h2 h3
    exact ⟨hl, hc⟩
end

theorem recs : ∀ t ∈ ([22, 3, 23] : List TypeId), Tryz.prog.readableRec t = true ∧ t < Tryz.prog.types.size := by
  intro t ht
  simp only [List.mem_cons, List.not_mem_nil, or_false] at ht
  rcases ht with rfl | rfl | rfl
  all_goals exact ⟨by kernel_rfl, of_decide_eq_true (by kernel_rfl)⟩

set_option maxRecDepth 100000 in
theorem lifted (os : Os) (started : os.Started) (H : Type) (enc : TypeId × Value → H) :
    ReturnsInHanded {} Tryz.checked os 3 .any (Rows.recipeMakesSpec.pre6 enc Tryz.prog Tryz.f3 Rows.recipeMakesRow.domain false) (Rows.recipeMakesSpec.post enc Tryz.prog Tryz.f3 false true false false) := by
  refine returnsInHanded_of_change (C := Tryz.checked) ownKnobOf started (by kernel_rfl) Tryz.func3
    (ChangeSpec.witness6 (enc := enc) (C := Tryz.checked) false ⟨#[], #[.slice none 0 0, .int .i64 0, .slice none 0 0], []⟩ 8 (by kernel_rfl) (by kernel_rfl) (by kernel_rfl) (by kernel_rfl)) ?_
  intro W base args ds gs before hval0 hW _ _
  have hval : ∀ (j : Nat) t v, Tryz.f3.params[j]? = some t → args[j]? = some v → Value.okWide Tryz.prog W .any base t v := hval0
  have hW' := hW
  obtain ⟨p, q, hA0, hV, rfl, _, _⟩ := hW
  have hA : DataW.TrodAll enc Tryz.prog W 0 (fun _ => true) true Tryz.f3.params.toList args.toList ds p := hA0
  obtain ⟨rfl, rfl⟩ := trodVars_none hV
  have hltp : ∀ x ∈ p, x.block < W.heap.size := fun x hx => hW'.lt x (by simpa using hx)
  have hA2 := hA
  rw [Tryz.params3] at hA hval
  obtain ⟨v0, vs0, d0, ds0, p0, q0, hargs, rfl, rfl, h0, r0⟩ := trodAll_cons hA
  obtain ⟨v1, vs1, d1, ds1, p1, q1, rfl, rfl, rfl, h1, r1⟩ := trodAll_cons r0
  obtain ⟨v2, vs2, d2, ds2, p2, q2, rfl, rfl, rfl, h2, r2⟩ := trodAll_cons r1
  obtain ⟨rfl, rfl, rfl⟩ := trodAll_nil r2
  obtain rfl : args = #[v0, v1, v2] := by cases args; simp_all
  obtain ⟨l, hl, hlm, hls⟩ := open_makes (hval 0 22 v0 rfl rfl) h0
  obtain ⟨z, rfl, rfl, rfl, _⟩ := open_int Tryz.underlying3 (hval 1 3 v1 rfl rfl) h1
  obtain ⟨ops, hops, hopm, hopx⟩ := open_ops (hval 2 23 v2 rfl rfl) h2
  clear hA0 hval0
  simp only [List.append_nil] at hW'
  refine (recipe_any hl hlm hls hops hopm hopx z).mono fun e W' ⟨he, hg⟩ => ?_
  subst he
  exact ⟨_, rfl, post_of_below (pa := _) (pv := []) hW' (fun _ _ _ => (trodAll_cons_mk (shut_bool Tryz.underlying4 _) trodAll_mk0)) (fun sp hsp => trodAll_stays laidAll hg recs hA2 hltp sp (fun x hx => hsp x (by simpa using hx))) (fun _ _ => rfl) (by simp)
    hg (ok_one (by kernel_rfl) rfl (okWide_bool_mk Tryz.underlying4 _))⟩

theorem over : Rows.recipeMakesRow.holds Tryz.pinned (OpenSpec.ofChange Rows.recipeMakesSpec) :=
  OpenClaim.holds_of_wide 3 Tryz.f3 rfl rfl rfl rfl rfl rfl rfl ⟨rfl, rfl, rfl, rfl, rfl⟩ rfl rfl rfl rfl rfl (by kernel_rfl) Tryz.func3 (by kernel_rfl)
    (of_decide_eq_true (by kernel_rfl)) (by unfold Func.isWrapper; first | (rw [if_pos (by decide +kernel)]; kernel_rfl) | (rw [if_neg (by decide +kernel)]; exact ⟨rfl, rfl⟩))
    (fun os started H enc _ => lifted os started H enc)

theorem proved : Rows.RecipeMakesSaid :=
  over
#print axioms proved
end Go.Proofs.YtkigohenfaomkaaGreat.recipeMakes
