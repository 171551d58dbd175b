/- Part 24 of what the statement wants. -/
import Derived.Deep.AppendLies
import Derived.Deep.Cut
import Derived.Laws.Tables
import Derived.Deep.RegionHeld3
import Derived.Test.YtgoinpibllomfaaDoorPk23
namespace Go.Proofs.YtgoinpibllomfaaDoor
open Go.RowKit

theorem pfClone_any {w : World} {v : Value} {l : List ByteArray} (h : TextsAt w v l) (hl : l.length ≤ 8796093022208) :
    Calls Tryd.prog 33 #[v] w fun e w' => ∃ v', e = .returned v' ∧ TextsAt w' v' l ∧ (l ≠ [] → ∃ g, v'.ownBlock = some g ∧ w.heap.size ≤ g) ∧ Below w.heap.size w w' := cloneS_any h hl

theorem infoStrs : (Tryd.prog.info? 23).map (fun i => (i.zero, i.size, i.bytes)) = some (some (.slice none 0 0), 1, 24) := by kernel_rfl
/-- A row of copies: each its own list, none in the row's block. -/
def Copies (B : Nat) (w : World) (v : Value) (p : Nat → List (List UInt8)) (k : Nat) (xs : List Value) : Prop :=
  ∀ j < k, ∃ x, xs[j]? = some x ∧ TextsAt w x ((p j).map bs) ∧ (p j ≠ [] → ∃ g, x.ownBlock = some g ∧ B ≤ g ∧ g < w.heap.size ∧ v.ownBlock ≠ some g)
theorem texts_some {w : World} {x : Value} {l : List ByteArray} (h : TextsAt w x l) : ∃ a n c, x = .slice a n c := by
  obtain ⟨a, c, e, _⟩ := h
  exact ⟨a, _, c, e⟩
theorem texts_row {w w' : World} {S : Nat → Prop} {x : Value} {l : List ByteArray} (h : TextsAt w x l) (m : Moves S w w') (hS : l ≠ [] → ∀ k, x.ownBlock = some k → ¬ S k) : TextsAt w' x l := by
  by_cases hl : l = []
  · subst hl
    obtain ⟨ao, cap, rfl, _⟩ := h
    exact ⟨ao, cap, rfl, fun h => absurd rfl h⟩
  · exact h.keep m.size fun b off cap i hv hb => m.cell (p := ⟨b, i, none⟩) hb (hS hl b (by rw [hv]; rfl))

set_option maxHeartbeats 4000000 in
set_option maxRecDepth 100000 in
theorem pfLists_new {w : World} {u : Nat → Value} {p : Nat → List (List UInt8)} (h : ∀ k < 8, TextsAt w (u k) ((p k).map bs)) (hl : ∀ k < 8, (p k).length ≤ 1000) :
    Calls Tryd.prog 56 #[agg8 u] w fun e w' => ∃ (b c : Nat) (u' : Nat → Value), e = .returned (.slice (some ⟨b, 0, none⟩) 8 c) ∧ b < w'.heap.size ∧ 8 ≤ c ∧ (∀ k < 8, w'.cell? ⟨b, k, none⟩ = some (u' k) ∧ TextsAt w' (u' k) ((p k).map bs) ∧ (p k ≠ [] → ∃ g, (u' k).ownBlock = some g ∧ w.heap.size ≤ g)) ∧ w.heap.size ≤ b ∧ Below w.heap.size w w' := by
  have hu := texts_sl h
  obtain ⟨i0, hi0, hz0, hz1, hz2⟩ := info_parts infoStrs
  obtain ⟨a0, n0, c0, e0⟩ := hu 0 (by omega)
  obtain ⟨a1, n1, c1, e1⟩ := hu 1 (by omega)
  obtain ⟨a2, n2, c2, e2⟩ := hu 2 (by omega)
  obtain ⟨a3, n3, c3, e3⟩ := hu 3 (by omega)
  obtain ⟨a4, n4, c4, e4⟩ := hu 4 (by omega)
  obtain ⟨a5, n5, c5, e5⟩ := hu 5 (by omega)
  obtain ⟨a6, n6, c6, e6⟩ := hu 6 (by omega)
  obtain ⟨a7, n7, c7, e7⟩ := hu 7 (by omega)
  have hi8 := index8 u
  have hpu := fun (W : World) => pfEight_any hu W
  obtain ⟨E, hE⟩ : ∃ E, E = agg8 u := ⟨_, rfl⟩
  have hX : E = .agg #[.slice a0 n0 c0, .slice a1 n1 c1, .slice a2 n2 c2, .slice a3 n3 c3, .slice a4 n4 c4, .slice a5 n5 c5, .slice a6 n6 c6, .slice a7 n7 c7] := by rw [hE]; unfold agg8; rw [e0, e1, e2, e3, e4, e5, e6, e7]
  rw [← hE] at hpu hi8 ⊢
  have HPu : Hid (∀ W, Calls Tryd.prog 78 #[.agg #[.slice a0 n0 c0, .slice a1 n1 c1, .slice a2 n2 c2, .slice a3 n3 c3, .slice a4 n4 c4, .slice a5 n5 c5, .slice a6 n6 c6, .slice a7 n7 c7]] W fun e w' => e = .returned E ∧ Below W.heap.size W w') := fun W => by
    have := hpu W
    rw [hX] at this ⊢
    exact this
  have HI := Lib.hid hi8
  have HCl : Hid (∀ (k : Nat) (hk : k < 8) (W : World), Below w.heap.size w W → Calls Tryd.prog 33 #[u k] W fun e w' => ∃ v', e = .returned v' ∧ TextsAt w' v' ((p k).map bs) ∧ ((p k).map bs ≠ [] → ∃ g, v'.ownBlock = some g ∧ W.heap.size ≤ g) ∧ Below W.heap.size W w') := fun k hk W hb => pfClone_any ((h k hk).below hb) (by rw [List.length_map]; have := hl k hk; omega)
  have HU := Lib.hid hu
  have hbox : (w.alloc (.cells #[.slice a0 n0 c0, .slice a1 n1 c1, .slice a2 n2 c2, .slice a3 n3 c3, .slice a4 n4 c4, .slice a5 n5 c5, .slice a6 n6 c6, .slice a7 n7 c7] 46)).heap[w.heap.size]? = some (.cells #[.slice a0 n0 c0, .slice a1 n1 c1, .slice a2 n2 c2, .slice a3 n3 c3, .slice a4 n4 c4, .slice a5 n5 c5, .slice a6 n6 c6, .slice a7 n7 c7] 46 (0, 0)) := heap_alloc_new w _
  have hsz : (Tryd.prog.info? 46).map (·.size) = some (#[.slice a0 n0 c0, .slice a1 n1 c1, .slice a2 n2 c2, .slice a3 n3 c3, .slice a4 n4 c4, .slice a5 n5 c5, .slice a6 n6 c6, .slice a7 n7 c7] : Array Value).size := by kernel_rfl
  have hbl : w.heap.size < (w.alloc (.cells #[.slice a0 n0 c0, .slice a1 n1 c1, .slice a2 n2 c2, .slice a3 n3 c3, .slice a4 n4 c4, .slice a5 n5 c5, .slice a6 n6 c6, .slice a7 n7 c7] 46)).heap.size := by rw [World.size_alloc]; omega
  have HBx : Hid (∀ W, Below (w.alloc (.cells #[.slice a0 n0 c0, .slice a1 n1 c1, .slice a2 n2 c2, .slice a3 n3 c3, .slice a4 n4 c4, .slice a5 n5 c5, .slice a6 n6 c6, .slice a7 n7 c7] 46)).heap.size (w.alloc (.cells #[.slice a0 n0 c0, .slice a1 n1 c1, .slice a2 n2 c2, .slice a3 n3 c3, .slice a4 n4 c4, .slice a5 n5 c5, .slice a6 n6 c6, .slice a7 n7 c7] 46)) W → W.heap[w.heap.size]? = some (.cells #[.slice a0 n0 c0, .slice a1 n1 c1, .slice a2 n2 c2, .slice a3 n3 c3, .slice a4 n4 c4, .slice a5 n5 c5, .slice a6 n6 c6, .slice a7 n7 c7] 46 (0, 0))) := fun W hb => (hb.block _ hbl).trans hbox
  have HB0 : Hid (Below w.heap.size w (w.alloc (.cells #[.slice a0 n0 c0, .slice a1 n1 c1, .slice a2 n2 c2, .slice a3 n3 c3, .slice a4 n4 c4, .slice a5 n5 c5, .slice a6 n6 c6, .slice a7 n7 c7] 46))) := (Below.refl _ _).alloc (Nat.le_refl _) _
  have hnA : (w.alloc (.cells #[.slice a0 n0 c0, .slice a1 n1 c1, .slice a2 n2 c2, .slice a3 n3 c3, .slice a4 n4 c4, .slice a5 n5 c5, .slice a6 n6 c6, .slice a7 n7 c7] 46)).heap.size = w.heap.size + 1 := World.size_alloc _ _
  rw [hX]
  clear hX hE hpu hi8 h hl hu hbox hbl e0 e1 e2 e3 e4 e5 e6 e7
  go_enter Tryd.func56, Tryd.ntmps56
  go_wp2_with (at_make; refine wpList_make_own _ rfl _ _ 92 rfl w.heap.size 23 i0 _ 1 Tryd.underlying92 hi0 hz0 hz1 _ _ _ 8 rfl rfl (by omega) ?b1 ?b2 ?b3 ?_)
  case b1 => rw [hz2]; omega
  case b2 => unfold maxLen; omega
  case b3 => rw [hnA]; omega
  intro w1 hown hgrow
  have hg1 : Below (w.alloc (.cells #[.slice a0 n0 c0, .slice a1 n1 c1, .slice a2 n2 c2, .slice a3 n3 c3, .slice a4 n4 c4, .slice a5 n5 c5, .slice a6 n6 c6, .slice a7 n7 c7] 46)).heap.size (w.alloc (.cells #[.slice a0 n0 c0, .slice a1 n1 c1, .slice a2 n2 c2, .slice a3 n3 c3, .slice a4 n4 c4, .slice a5 n5 c5, .slice a6 n6 c6, .slice a7 n7 c7] 46)) w1 := (Below.refl _ _).grown hgrow (Nat.le_refl _) (by simp)
  have HG1 := Lib.hid hg1
  have HOw := Lib.hid hown
  clear hgrow hg1 hown
  go_wp2_with (first
    | (refine wpList_load_row rfl 46 _ rfl w.heap.size rfl 46 _ (0, 0) _ (HBx.out _ HG1.out) Tryd.underlying46 rfl hsz ?_)
    | (go_at_call 78; (with_reducible refine (HPu.out _).mono ?_); rintro e w2 ⟨rfl, g2⟩; have G2 := Lib.hid g2; clear g2))
  have HBw : Hid (Below w.heap.size w w2) := HB0.out.trans ((HG1.out.trans (G2.out.mono HG1.out.size)).mono HB0.out.size)
  have hown2 : w2.ownsRow w.heap.size 23 1 (.slice (some ⟨w.heap.size + 1, 0, none⟩) 0 8) 0 [] := owns_moves HOw.out (Moves.ofBelow (S := nobody) G2.out) (fun _ _ h => h)
  have HO2 := Lib.hid hown2
  clear HPu HBx HB0 HG1 HOw G2 hown2
  go_loopw [3, 9] (fun v i wr => ∃ (k : Nat) (xs : List Value), k ≤ 8 ∧ i = .int .i64 k ∧ (∃ g c, v = .slice (some ⟨g, 0, none⟩) k c) ∧ wr.ownsRow w.heap.size 23 1 v k xs ∧ Copies w.heap.size wr v p k xs ∧ Below w.heap.size w wr) (fun _ i _ => 9 - (intOf i).toNat)
  case atStart => exact ⟨0, [], Nat.zero_le _, rfl, ⟨_, _, rfl⟩, HO2.out, fun j hj => absurd hj (by omega), HBw.out⟩
  case round =>
    obtain ⟨k, xs, hk, rfl, ⟨g, c, rfl⟩, hrow, hcp, hb⟩ := hrel
    by_cases hlt : k < 8
    · obtain ⟨ak, nk, ck, ek⟩ := HU.out k hlt
      have hi := HI.out k hlt
      have HCk := Lib.hid (HCl.out k hlt wr hb)
      rw [ek] at hi HCk
      have HRow := Lib.hid hrow
      have HCp := Lib.hid hcp
      have HB := Lib.hid hb
      have hbs := hb.size
      clear hrow hcp hb ek HI HCl HU HO2 HBw
      go_wp2_with (first
        | (go_at_call 33; (with_reducible refine HCk.out.mono ?_); rintro e w3 ⟨x, rfl, hx, hg, g3⟩; have hs3 := g3.size; have HR3 := Lib.hid (owns_moves HRow.out (Moves.ofBelow (S := nobody) g3) (fun _ _ h => h)); have HX := Lib.hid hx; have HGx := Lib.hid hg; have G3 := Lib.hid g3; obtain ⟨ax, nx, cx, ex⟩ := texts_some hx; subst ex; clear hx hg g3)
        | (at_builtin; refine wpList_append_lies _ rfl _ _ 92 rfl w.heap.size 23 i0 (.slice none 0 0) 1 24 Tryd.underlying92 hi0 hz0 hz1 hz2 rfl (by decide) _ k xs rfl (HR3.out.alloc _) ⟨w3.heap.size, 0, none⟩ 1 1 [.slice ax nx cx] rfl rfl (cell_one_new w3 _ _) (by simp [Value.oneCell']) (by decide) (by unfold maxLen; omega) (by omega) (by rw [World.size_alloc]; omega) _ rfl ?_; intro g4 c4 w4 hrow4 hg4 hat4 hlt4; have HR4 := Lib.hid hrow4; have HG4 := Lib.hid hg4; have HA4 := Lib.hid hat4; clear hrow4 hg4 hat4))
      have hxl := HRow.out.1
      have hS : ∀ i, (Value.slice (some ⟨g, 0, none⟩) k c).ownBlock = some i → i = g := fun i hi => by
        have : some g = some i := hi
        exact (Option.some.inj this).symm
      have m4 : Moves (fun i => (Value.slice (some ⟨g, 0, none⟩) k c).ownBlock = some i) w3 w4 := ((Moves.refl (fun i => (Value.slice (some ⟨g, 0, none⟩) k c).ownBlock = some i) w3).alloc _).grown HG4.out (fun _ hi => .inl hi)
      have hgl := (HRow.out.lt g rfl).2
      have hB4 : Below w.heap.size w w4 := ((HB.out.trans (G3.out.mono hbs)).alloc (HB.out.trans (G3.out.mono hbs)).size _).grown HG4.out (by rw [World.size_alloc]; omega) (fun j hj => (HR3.out.lt j hj).1)
      refine ⟨⟨k + 1, xs ++ [.slice ax nx cx], by omega, by go_num, ⟨_, _, rfl⟩, HR4.out, fun j hj => ?_, hB4⟩, by simp [intOf]; omega⟩
      rcases Nat.lt_or_eq_of_le (Nat.le_of_lt_succ hj) with hjk | rfl
      · obtain ⟨x, h1, h2, h3⟩ := HCp.out j hjk
        refine ⟨x, by rw [List.getElem?_append_left (by have := (List.getElem?_eq_some_iff.1 h1).1; exact this)]; exact h1, texts_row (h2.below G3.out) m4 (fun hne i hi hSi => ?_), fun hne => ?_⟩
        · obtain ⟨gj, k1, _, _, k3⟩ := h3 (fun e => hne (by rw [e]; rfl))
          have e1 := hS i hSi
          rw [k1] at hi
          have e2 := Option.some.inj hi
          exact k3 (by show some g = some gj; rw [e2, e1])
        · obtain ⟨gj, k1, kB, k2, k3⟩ := h3 hne
          refine ⟨gj, k1, kB, Nat.lt_of_lt_of_le k2 (Nat.le_trans G3.out.size m4.size), fun e => ?_⟩
          have e4 : g4 = gj := Option.some.inj (show some g4 = some gj from e)
          rcases HA4.out with h | h
          · exact k3 (by show some g = some gj; rw [← e4]; exact h)
          · rw [World.size_alloc] at h
            omega
      · refine ⟨.slice ax nx cx, by rw [List.getElem?_append_right (by omega)]; simp [hxl], texts_row HX.out m4 (fun hne i hi hSi => ?_), fun hne => ?_⟩
        · obtain ⟨gx, k1, k2⟩ := HGx.out hne
          have e1 := hS i hSi
          rw [k1] at hi
          have e2 := Option.some.inj hi
          omega
        · have hne' : (p j).map bs ≠ [] := fun e => hne (List.map_eq_nil_iff.1 e)
          obtain ⟨gx, k1, k2⟩ := HGx.out hne'
          obtain ⟨ao, cap, ev, hc⟩ := HX.out
          obtain ⟨bb, off, rfl, hbb, _⟩ := hc hne'
          rw [ev] at k1
          have e1 : bb = gx := Option.some.inj (show some bb = some gx from k1)
          refine ⟨gx, by rw [ev]; exact k1, by omega, by have := m4.size; omega, fun e => ?_⟩
          have e4 : g4 = gx := Option.some.inj (show some g4 = some gx from e)
          rcases HA4.out with h | h
          · have : g = g4 := Option.some.inj (show some g = some g4 from h)
            omega
          · rw [World.size_alloc] at h
            omega
    · have hkl : k = 8 := by omega
      subst hkl
      have HRow := Lib.hid hrow
      have HCp := Lib.hid hcp
      have HB := Lib.hid hb
      clear hrow hcp hb hlt HI HCl HU HO2 HBw
      go_wp2_with fail
      go_ret
      rcases HRow.out.2 with ⟨h, _⟩ | ⟨g', cap', cur, e, hbg, hgr, hnc, hcm, hcs, htake⟩
      · cases h
      · injection e with e1 _ e3
        injection e1 with e1
        injection e1 with e1
        subst e1 e3
        have hlt' := (HRow.out.lt g rfl).2
        refine ⟨g, c, fun j => xs.getD j (.slice none 0 0), rfl, hlt', hnc, fun j hj => ?_, (HRow.out.lt g rfl).1, HB.out⟩
        obtain ⟨x, h1, h2, h3⟩ := HCp.out j hj
        have e : xs.getD j (.slice none 0 0) = x := by rw [List.getD_eq_getElem?_getD, h1]; rfl
        show wr.cell? ⟨g, j, none⟩ = some (xs.getD j (.slice none 0 0)) ∧ TextsAt wr (xs.getD j (.slice none 0 0)) _ ∧ (p j ≠ [] → ∃ g, (xs.getD j (.slice none 0 0)).ownBlock = some g ∧ w.heap.size ≤ g)
        rw [e]
        refine ⟨?_, h2, fun hne => by obtain ⟨g0, k1, k2, _⟩ := h3 hne; exact ⟨g0, k1, k2⟩⟩
        rw [cell_of_row wr g j _ _ _ hgr]
        rw [← htake, List.getElem?_take, if_pos (by omega)] at h1
        rw [← Array.getElem?_toList]
        exact h1
theorem pfLists_any {w : World} {u : Nat → Value} {p : Nat → List (List UInt8)} (h : ∀ k < 8, TextsAt w (u k) ((p k).map bs)) (hl : ∀ k < 8, (p k).length ≤ 1000) :
    Calls Tryd.prog 56 #[agg8 u] w fun e w' => ∃ (b c : Nat) (u' : Nat → Value), e = .returned (.slice (some ⟨b, 0, none⟩) 8 c) ∧ b < w'.heap.size ∧ 8 ≤ c ∧ (∀ k < 8, w'.cell? ⟨b, k, none⟩ = some (u' k) ∧ TextsAt w' (u' k) ((p k).map bs)) ∧ Below w.heap.size w w' :=
  (pfLists_new h hl).mono fun _ _ ⟨b, c, u', h1, h2, h3, h4, _, h6⟩ => ⟨b, c, u', h1, h2, h3, fun k hk => ⟨(h4 k hk).1, (h4 k hk).2.1⟩, h6⟩
end Go.Proofs.YtgoinpibllomfaaDoor

namespace Go.Proofs.YtgoinpibllomfaaDoor
open Go.RowKit

theorem pfResults {P : Program} {fn : Func} {p u : Tmp} {ty : TypeId} (h : fn.results = #[.cell p ty, .tmp u]) (tmps : Array Value) (w : World) (g : Nat) (t : TypeId) (cs : Array Value) (fr : Nat × Nat) (d : TypeDesc)
    (hp : tmps.getD p undef = .pointer (some ⟨g, 0, none⟩)) (hg : w.heap[g]? = some (.cells cs t fr))
    (hu : P.underlying ty = some d) (hd : (match d with | .struct _ | .array _ _ => true | _ => false) = true) (hi : (P.info? ty).map (·.size) = some cs.size) :
    (results fn tmps).run P w = .ok (.tuple #[.agg cs, tmps.getD u undef]) w := by
  have hp' : tmps[p]?.getD undef = .pointer (some ⟨g, 0, none⟩) := by simpa using hp
  simp [results, h, hp', asAddr, run_loadVar_row w g t ty cs fr d hg hu hd hi]

end Go.Proofs.YtgoinpibllomfaaDoor

namespace Go.Proofs.YtgoinpibllomfaaDoor
open Go.RowKit

end Go.Proofs.YtgoinpibllomfaaDoor
