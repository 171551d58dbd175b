/- View of what is no term; the calls on the nil arena; the document's View.
same: two nodes agree.
The walk of TermViews.
The walk of TermViews. -/
import Derived.Test.YtamgbeinmfgglaaMost
import Derived.Test.YtamgbeinmfgglaaLong
import Derived.BigQuiet
import Derived.Test.YtamgbeinmfgglaaMakesLaw
import Derived.Deep.RegionHeld3
namespace Go.Proofs.Ytamgbeinmfgglaa
open Go.RowKit

theorem Len_nil (w : World) : Calls Try.prog 15 #[.pointer none] w fun e w' => e = .returned (.int .i64 0) ∧ w' = w := by
  go_enter Try.func15, Try.ntmps15
  go_wp2_with fail
  go_ret
  exact ⟨rfl, rfl⟩
theorem Kind_nil (i : Int) (w : World) : Calls Try.prog 17 #[.pointer none, .int .i64 i] w fun e w' => e = .returned (.int .i64 0) ∧ w' = w := by
  go_enter Try.func17, Try.ntmps17
  go_wp2_with (go_at_call 39; refine (has_nil _ _).mono ?_; rintro e w1 ⟨rfl, hw⟩; have hw := hw.symm; subst hw)
  go_ret
  exact ⟨rfl, rfl⟩
theorem Size_nil (i : Int) (w : World) : Calls Try.prog 18 #[.pointer none, .int .i64 i] w fun e w' => e = .returned (.int .i64 0) ∧ w' = w := by
  go_enter Try.func18, Try.ntmps18
  go_wp2_with (go_at_call 39; refine (has_nil _ _).mono ?_; rintro e w1 ⟨rfl, hw⟩; have hw := hw.symm; subst hw)
  go_ret
  exact ⟨rfl, rfl⟩
theorem build_nilD (s : ByteArray) (w : World) : Calls Try.prog 42 #[.pointer none, .agg #[.int .i64 1, .int .i64 0, .int .i64 0, .string s, .string ⟨#[]⟩], .int .i64 5, .slice none 0 0] w fun r w' => r = .returned (.int .i64 (-1)) ∧ Below w.heap.size w w' := build_nil ⟨1, 0, 0, s⟩ 5 _ w
theorem build_nilL (w : World) : Calls Try.prog 42 #[.pointer none, .agg #[.int .i64 10, .int .i64 0, .int .i64 0, .string ⟨#[]⟩, .string ⟨#[]⟩], .int .i64 5, .slice none 0 0] w fun r w' => r = .returned (.int .i64 (-1)) ∧ Below w.heap.size w w' := build_nil ⟨10, 0, 0, ⟨#[]⟩⟩ 5 _ w
theorem Data_nil (s : ByteArray) (w : World) : Calls Try.prog 21 #[.pointer none, .string s] w fun e w' => e = .returned (.int .i64 (-1)) ∧ Below w.heap.size w w' := by
  have HB := Lib.hid build_nilD
  go_enter Try.func21, Try.ntmps21
  go_wp2_with (go_at_call 42; with_reducible refine (HB.out _ _).mono ?_; rintro e w1 ⟨rfl, b1⟩)
  go_ret
  exact ⟨rfl, b1⟩
theorem List_nil (w : World) : Calls Try.prog 22 #[.pointer none, .slice none 0 0] w fun e w' => e = .returned (.int .i64 (-1)) ∧ Below w.heap.size w w' := by
  have HB := Lib.hid build_nilL
  go_enter Try.func22, Try.ntmps22
  go_wp2_with (go_at_call 42; with_reducible refine (HB.out _).mono ?_; rintro e w1 ⟨rfl, b1⟩)
  go_ret
  exact ⟨rfl, b1⟩

/-- View of what is no term. -/
theorem gone_row (w : World) : Holds (w.alloc (.cells #[.int .i64 0, .int .i64 0, .int .i64 0, .string ⟨#[]⟩, .slice none 0 0] 36)) w.heap.size 36 #[.int .i64 0, .int .i64 0, .int .i64 0, .string ⟨#[]⟩, .slice none 0 0] := Holds.new w _ _
set_option maxHeartbeats 2000000 in
theorem View_gone {p : Value} {i : Int} {w : World} (hh : ∀ W : World, Below w.heap.size w W → Calls Try.prog 39 #[p, .int .i64 i] W fun e w' => e = .returned (.bool false) ∧ W = w') :
    Calls Try.prog 16 #[p, .int .i64 i] w fun r w' => r = .returned (.tuple #[noNode, .bool false]) ∧ Below w.heap.size w w' := by
  have HH := Lib.hid (hh _ ((Below.refl _ _).alloc (Nat.le_refl _) (.cells #[.int .i64 0, .int .i64 0, .int .i64 0, .string ⟨#[]⟩, .slice none 0 0] 36)))
  have HN := Lib.hid (gone_row w)
  have HB : Hid (Below w.heap.size w (w.alloc (.cells #[.int .i64 0, .int .i64 0, .int .i64 0, .string ⟨#[]⟩, .slice none 0 0] 36))) := (Below.refl _ _).alloc (Nat.le_refl _) _
  clear hh
  go_enter Try.func16, Try.ntmps16
  go_wp2_with (go_at_call 39; with_reducible refine HH.out.mono ?_; rintro e w1 ⟨rfl, hw⟩; have hN := HN.out; have hB := HB.out; rw [hw] at hN hB; clear HH HN HB hw; have c0 := hN.cell 0; have c1 := hN.cell 1; have c2 := hN.cell 2; have c3 := hN.cell 3; have c4 := hN.cell 4; have f0 := hN.frozen 0; have f1 := hN.frozen 1; have f2 := hN.frozen 2; have f3 := hN.frozen 3; have f4 := hN.frozen 4)
  have hNf := Holds.set (Holds.set (Holds.set (Holds.set (Holds.set hN 0 (.int .i64 0)) 1 (.int .i64 0)) 2 (.int .i64 0)) 3 (.string ⟨#[]⟩)) 4 (.slice none 0 0)
  refine bodyPost_ret (v := .tuple #[noNode, .bool false]) ?_ rfl ⟨rfl, ?_⟩
  · exact run_cell_tmp rfl _ _ w.heap.size _ _ _ rfl rfl hNf Try.underlying36 rfl (by kernel_rfl)
  · exact ((((hB.setCell (p := ⟨w.heap.size, 0, none⟩) (Nat.le_refl _) _).setCell (p := ⟨w.heap.size, 1, none⟩) (Nat.le_refl _) _).setCell (p := ⟨w.heap.size, 2, none⟩) (Nat.le_refl _) _).setCell (p := ⟨w.heap.size, 3, none⟩) (Nat.le_refl _) _).setCell (p := ⟨w.heap.size, 4, none⟩) (Nat.le_refl _) _
theorem View_no {B A : Nat} {L : List Ent} {F : Nat → Prop} {w : World} (ha : ArenaAt B A L F w) (i : Int) (hi : i < 0 ∨ L.length ≤ i) :
    Calls Try.prog 16 #[.pointer (some ⟨A, 0, none⟩), .int .i64 i] w fun r w' => r = .returned (.tuple #[noNode, .bool false]) ∧ Below w.heap.size w w' :=
  View_gone fun _ hb => has_no (ha.below hb) i hi
theorem View_nil (i : Int) (w : World) : Calls Try.prog 16 #[.pointer none, .int .i64 i] w fun r w' => r = .returned (.tuple #[noNode, .bool false]) ∧ Below w.heap.size w w' :=
  View_gone fun W _ => has_nil i W

theorem rnode_row (w : World) : Holds (w.alloc (.cells #[.int .i64 0, .int .i64 0, .int .i64 0, .string ⟨#[]⟩, .slice none 0 0] 42)) w.heap.size 42 #[.int .i64 0, .int .i64 0, .int .i64 0, .string ⟨#[]⟩, .slice none 0 0] := Holds.new w _ _
set_option maxRecDepth 100000 in
theorem refView_any (d : List UInt8) (hd : d.length ≤ 1000000) (hne : ∀ x ∈ (nodeOf d).args, x ≠ []) (w : World) : Calls Try.prog 20 #[.string (bs d)] w fun e w' => ∃ v, e = .returned (rnodeV (nodeOf d) v) ∧ TextsAt w' v ((nodeOf d).args.map bs) ∧ Below w.heap.size w w' := by
  have HP : Hid (∀ W : World, Calls Try.prog 41 #[.string (bs d), .int .i64 0] W fun e w' => ∃ (ao : Option Addr) (nn cap : Nat) (en : Int) (ok : Bool), e = .returned (.tuple #[.agg #[.int .i64 (nodeOf d).k, .int .i64 ((nodeOf d).a : Int), .int .i64 ((nodeOf d).b : Int), .string (bs (nodeOf d).s), .slice ao nn cap], .int .i64 en, .bool ok]) ∧ TextsAt w' (.slice ao nn cap) ((nodeOf d).args.map bs) ∧ Below W.heap.size W w') := fun W =>
    (Parse_any d hd W).mono fun e w' ⟨v, h1, h2, h3⟩ => by
      obtain ⟨ao, cap, rfl, hc⟩ := id h2
      exact ⟨ao, _, cap, _, _, h1, h2, h3⟩
  have HN := Lib.hid (rnode_row w)
  have HB : Hid (Below w.heap.size w (w.alloc (.cells #[.int .i64 0, .int .i64 0, .int .i64 0, .string ⟨#[]⟩, .slice none 0 0] 42))) := (Below.refl _ _).alloc (Nat.le_refl _) _
  generalize nodeOf d = nd at *
  obtain ⟨xk, xa, xb, xs, l⟩ := nd
  unfold rnodeV
  simp only at *
  have HL := Lib.hid hne
  clear hne
  generalize bs xs = S at *
  generalize (xa : Int) = a at *
  generalize (xb : Int) = b at *
  go_enter Try.func20, Try.ntmps20
  go_wp2_with (go_at_call 41; with_reducible refine (HP.out _).mono ?_; rintro e w1 ⟨ao, nn, cap, en, ok, rfl, hT, b1⟩; have hN1 := Holds.moves HN.out (Moves.ofBelow (S := nobody) b1) (fun h => h); have hB := HB.out.trans (b1.mono HB.out.size); clear HN HB b1; have hN := Holds.moves hN1 ((Moves.refl nobody w1).alloc (.cells #[.int .i64 xk, .int .i64 a, .int .i64 b, .string S, .slice ao nn cap] 42)) (fun h => h); have c0 := hN.cell 0; have c1 := hN.cell 1; have c2 := hN.cell 2; have c3 := hN.cell 3; have c4 := hN.cell 4; have f0 := hN.frozen 0; have f1 := hN.frozen 1; have f2 := hN.frozen 2; have f3 := hN.frozen 3; have f4 := hN.frozen 4)
  have hNf := Holds.set (Holds.set (Holds.set (Holds.set (Holds.set hN 0 (.int .i64 xk)) 1 (.int .i64 a)) 2 (.int .i64 b)) 3 (.string S)) 4 (.slice ao nn cap)
  have ma : Moves (fun i => i = w.heap.size) w1 (w1.alloc (.cells #[.int .i64 xk, .int .i64 a, .int .i64 b, .string S, .slice ao nn cap] 42)) := (Moves.refl _ w1).alloc _
  have mf := ((((ma.setCell (p := ⟨w.heap.size, 0, none⟩) (.inl rfl) (.int .i64 xk)).setCell (p := ⟨w.heap.size, 1, none⟩) (.inl rfl) (.int .i64 a)).setCell (p := ⟨w.heap.size, 2, none⟩) (.inl rfl) (.int .i64 b)).setCell (p := ⟨w.heap.size, 3, none⟩) (.inl rfl) (.string S)).setCell (p := ⟨w.heap.size, 4, none⟩) (.inl rfl) (.slice ao nn cap)
  refine bodyPost_ret (v := .agg #[.int .i64 xk, .int .i64 a, .int .i64 b, .string S, .slice ao nn cap]) ?_ rfl ⟨_, rfl, ?_, ?_⟩
  · exact results_cell_row rfl _ _ w.heap.size _ _ (0, 0) _ rfl hNf Try.underlying42 rfl (by kernel_rfl)
  · by_cases hl : l = []
    · subst hl
      obtain ⟨ao', cap', he, _⟩ := hT
      exact ⟨ao', cap', he, fun h => absurd rfl h⟩
    · refine hT.keep mf.size fun b' off c i hv hb => mf.cell (p := ⟨b', i, none⟩) hb (fun e => ?_)
      have e' : b' = w.heap.size := e
      obtain ⟨ao', cap', he, hc⟩ := hT
      obtain ⟨b2, off2, rfl, hb2, hcell⟩ := hc (by simpa using hl)
      have h0 := hcell 0 (bs (l[0]'(List.length_pos_iff.2 hl))) (by simp [List.getElem?_eq_getElem (List.length_pos_iff.2 hl)])
      rw [hv] at he
      simp only [Value.slice.injEq, Option.some.injEq, Addr.mk.injEq] at he
      obtain ⟨⟨hbb, _, _⟩, _⟩ := he
      rw [← hbb, e', Holds.cell hN1] at h0
      have hx := HL.out _ (List.getElem_mem (List.length_pos_iff.2 hl))
      have : off2 = 0 ∨ off2 = 1 ∨ off2 = 2 ∨ off2 = 3 ∨ off2 = 4 ∨ 5 ≤ off2 := by omega
      rcases this with rfl | rfl | rfl | rfl | rfl | h5
      · simp at h0
      · simp at h0
      · simp at h0
      · simp at h0
        exact hx (bs_inj (h0.symm.trans rfl))
      · simp at h0
      · rw [Nat.add_zero, List.getElem?_toArray, List.getElem?_eq_none (by simpa using h5)] at h0
        cases h0
  · exact hB.trans (mf.below hB.size (fun i hi => by omega))
end Go.Proofs.Ytamgbeinmfgglaa

namespace Go.Proofs.Ytamgbeinmfgglaa
open Go.RowKit

set_option maxHeartbeats 4000000 in
set_option maxRecDepth 100000 in
theorem msame_any {w : World} {ids args : List Int} {texts targs : List (List UInt8)} (ai at' ax ay : Option Addr) (ci ct cx cy : Nat) (k a b : Int) (s : ByteArray)
    (hn : texts.length = ids.length) (hm : targs.length = args.length) (hil : ids.length ≤ 1000) (hal : args.length ≤ 100000)
    (hI : ids ≠ [] → ∃ bi oi bt ot, ai = some ⟨bi, oi, none⟩ ∧ at' = some ⟨bt, ot, none⟩ ∧ bi < w.heap.size ∧ bt < w.heap.size ∧ ∀ (k : Nat) (i : Int) (t : List UInt8), ids[k]? = some i → texts[k]? = some t → w.cell? ⟨bi, oi + k, none⟩ = some (.int .i64 i) ∧ w.cell? ⟨bt, ot + k, none⟩ = some (.string (bs t)))
    (hX : args ≠ [] → ∃ bi oi bt ot, ax = some ⟨bi, oi, none⟩ ∧ ay = some ⟨bt, ot, none⟩ ∧ bi < w.heap.size ∧ bt < w.heap.size ∧ ∀ (k : Nat) (i : Int) (t : List UInt8), args[k]? = some i → targs[k]? = some t → w.cell? ⟨bi, oi + k, none⟩ = some (.int .i64 i) ∧ w.cell? ⟨bt, ot + k, none⟩ = some (.string (bs t)))
    (hp : ∀ (k j : Nat) (i i' : Int) (t t' : List UInt8), ids[k]? = some i → texts[k]? = some t → args[j]? = some i' → targs[j]? = some t' → ∃ b : Bool, (i == i') = b ∧ ((bs t).toList == (bs t').toList) = b) :
    Calls Try.prog 19 #[.agg #[.slice ai ids.length ci, .slice at' ids.length ct], .agg #[.int .i64 k, .int .i64 a, .int .i64 b, .string s, .slice ax args.length cx], .agg #[.int .i64 k, .int .i64 a, .int .i64 b, .string s, .slice ay args.length cy]] w fun e w' => e = .returned (.bool true) ∧ Below w.heap.size w w' := by
  have hbq := same_yes (rfl : s = s)
  have HI := Lib.hid hI
  have HX := Lib.hid hX
  have HP := Lib.hid hp
  have HN := Lib.hid hn
  have HM := Lib.hid hm
  clear hI hX hp hn hm
  go_enter Try.func19, Try.ntmps19
  go_wp2_with fail
  obtain ⟨W0, hW0⟩ : ∃ W0, W0 = ((w.alloc (.cells #[.slice ai ids.length ci, .slice at' ids.length ct] 30)).alloc (.cells #[.int .i64 k, .int .i64 a, .int .i64 b, .string s, .slice ax args.length cx] 36)).alloc (.cells #[.int .i64 k, .int .i64 a, .int .i64 b, .string s, .slice ay args.length cy] 42) := ⟨_, rfl⟩
  have hb0 : Below w.heap.size w W0 := by
    rw [hW0]; exact (((Below.refl _ _).alloc (Nat.le_refl _) _).alloc (by simp) _).alloc (by simp; omega) _
  have h1 : Holds W0 w.heap.size 30 #[.slice ai ids.length ci, .slice at' ids.length ct] := by
    rw [hW0]
    exact (Holds.new w _ _).moves (((Moves.refl nobody _).alloc _).alloc _) (fun h => h)
  have h2 : Holds W0 (w.heap.size + 1) 36 #[.int .i64 k, .int .i64 a, .int .i64 b, .string s, .slice ax args.length cx] := by
    rw [hW0]
    have := (Holds.new (w.alloc (.cells #[.slice ai ids.length ci, .slice at' ids.length ct] 30)) 36 #[.int .i64 k, .int .i64 a, .int .i64 b, .string s, .slice ax args.length cx])
    rw [World.size_alloc] at this
    exact this.moves ((Moves.refl nobody _).alloc _) (fun h => h)
  have h3 : Holds W0 (w.heap.size + 1 + 1) 42 #[.int .i64 k, .int .i64 a, .int .i64 b, .string s, .slice ay args.length cy] := by
    rw [hW0]
    have := (Holds.new ((w.alloc (.cells #[.slice ai ids.length ci, .slice at' ids.length ct] 30)).alloc (.cells #[.int .i64 k, .int .i64 a, .int .i64 b, .string s, .slice ax args.length cx] 36)) 42 #[.int .i64 k, .int .i64 a, .int .i64 b, .string s, .slice ay args.length cy])
    rw [World.size_alloc, World.size_alloc] at this
    exact this
  rw [← hW0]
  have HB0 := Lib.hid hb0
  have H1 := Lib.hid h1
  have H2 := Lib.hid h2
  have H3 := Lib.hid h3
  clear hW0 h1 h2 h3 hb0
  obtain ⟨N, hN⟩ : ∃ N, N = w.heap.size := ⟨_, rfl⟩
  have HNw := Lib.hid hN
  rw [← hN]
  rw [← hN] at H1 H2 H3
  have HMem : Hid (∀ W, Below W0.heap.size W0 W → W.cell? ⟨N, 0, none⟩ = some (.slice ai ids.length ci) ∧ W.cell? ⟨N, 1, none⟩ = some (.slice at' ids.length ct) ∧ W.cell? ⟨N + 1, 4, none⟩ = some (.slice ax args.length cx) ∧ W.cell? ⟨N + 1 + 1, 4, none⟩ = some (.slice ay args.length cy)) := fun W hb => by
    have a1 := H1.out.moves (Moves.ofBelow (S := nobody) hb) (fun h => h)
    have a2 := H2.out.moves (Moves.ofBelow (S := nobody) hb) (fun h => h)
    have a3 := H3.out.moves (Moves.ofBelow (S := nobody) hb) (fun h => h)
    exact ⟨by simpa using a1.cell 0, by simpa using a1.cell 1, by simpa using a2.cell 4, by simpa using a3.cell 4⟩
  have HMI : Hid (∀ W, Below W0.heap.size W0 W → ids ≠ [] → ∃ bi oi bt ot, ai = some ⟨bi, oi, none⟩ ∧ at' = some ⟨bt, ot, none⟩ ∧ ∀ (k : Nat) (i : Int) (t : List UInt8), ids[k]? = some i → texts[k]? = some t → W.cell? ⟨bi, oi + k, none⟩ = some (.int .i64 i) ∧ W.cell? ⟨bt, ot + k, none⟩ = some (.string (bs t))) := fun W hb hne => by
    obtain ⟨bi, oi, bt, ot, e1, e2, hbi, hbt, h⟩ := HI.out hne
    have hs := HB0.out.size
    refine ⟨bi, oi, bt, ot, e1, e2, fun k i t hi ht => ?_⟩
    obtain ⟨a, b⟩ := h k i t hi ht
    exact ⟨((hb.cell (p := ⟨bi, oi + k, none⟩) (by show bi < _; omega)).trans (HB0.out.cell (p := ⟨bi, oi + k, none⟩) hbi)).trans a, ((hb.cell (p := ⟨bt, ot + k, none⟩) (by show bt < _; omega)).trans (HB0.out.cell (p := ⟨bt, ot + k, none⟩) hbt)).trans b⟩
  have HMX : Hid (∀ W, Below W0.heap.size W0 W → args ≠ [] → ∃ bi oi bt ot, ax = some ⟨bi, oi, none⟩ ∧ ay = some ⟨bt, ot, none⟩ ∧ ∀ (k : Nat) (i : Int) (t : List UInt8), args[k]? = some i → targs[k]? = some t → W.cell? ⟨bi, oi + k, none⟩ = some (.int .i64 i) ∧ W.cell? ⟨bt, ot + k, none⟩ = some (.string (bs t))) := fun W hb hne => by
    obtain ⟨bi, oi, bt, ot, e1, e2, hbi, hbt, h⟩ := HX.out hne
    have hs := HB0.out.size
    refine ⟨bi, oi, bt, ot, e1, e2, fun k i t hi ht => ?_⟩
    obtain ⟨a, b⟩ := h k i t hi ht
    exact ⟨((hb.cell (p := ⟨bi, oi + k, none⟩) (by show bi < _; omega)).trans (HB0.out.cell (p := ⟨bi, oi + k, none⟩) hbi)).trans a, ((hb.cell (p := ⟨bt, ot + k, none⟩) (by show bt < _; omega)).trans (HB0.out.cell (p := ⟨bt, ot + k, none⟩) hbt)).trans b⟩
  clear HI HX H1 H2 H3 hbq hN
  go_loopw [7] (fun i wr => ∃ j : Nat, j ≤ args.length ∧ i = .int .i64 j ∧ Below W0.heap.size W0 wr) (fun i _ => args.length - (intOf i).toNat)
  case atStart => exact ⟨0, Nat.zero_le _, rfl, Below.refl _ _⟩
  case round =>
    obtain ⟨j, hj, rfl, hbel⟩ := hrel
    obtain ⟨y1, y2, y3, y4⟩ := HMem.out wr hbel
    by_cases hlt : j < args.length
    · go_wp2_with fail
      have HBel := Lib.hid hbel
      clear hbel y1 y2 y3 y4
      go_loopw [8] (fun i wi => ∃ q : Nat, q ≤ ids.length ∧ i = .int .i64 q ∧ Below W0.heap.size W0 wi) (fun i _ => ids.length - (intOf i).toNat)
      case atStart => exact ⟨0, Nat.zero_le _, rfl, HBel.out⟩
      case round =>
        obtain ⟨q, hq, rfl, hbi⟩ := hrel
        obtain ⟨y1, y2, y3, y4⟩ := HMem.out wr hbi
        by_cases hqn : q < ids.length
        · obtain ⟨bi, oi, bt, ot, rfl, rfl, hci⟩ := HMI.out wr hbi (by intro h; simp [h] at hqn)
          obtain ⟨bx, ox, by', oy, rfl, rfl, hcx⟩ := HMX.out wr hbi (by intro h; simp [h] at hlt)
          obtain ⟨i, hi⟩ : ∃ i, ids[q]? = some i := ⟨_, List.getElem?_eq_getElem hqn⟩
          obtain ⟨t, ht⟩ : ∃ t, texts[q]? = some t := ⟨_, List.getElem?_eq_getElem (by have := HN.out; omega)⟩
          obtain ⟨i', hi'⟩ : ∃ i, args[j]? = some i := ⟨_, List.getElem?_eq_getElem hlt⟩
          obtain ⟨t', ht'⟩ : ∃ t, targs[j]? = some t := ⟨_, List.getElem?_eq_getElem (by have := HM.out; omega)⟩
          obtain ⟨z1, z2⟩ := hci q i t hi ht
          obtain ⟨z3, z4⟩ := hcx j i' t' hi' ht'
          obtain ⟨b, q6, q7⟩ := HP.out q j i i' t t' hi ht hi' ht'
          have hxb : (b != b) = false := by simp
          have HBi := Lib.hid hbi
          clear hci hcx hi ht hi' ht' hbi
          generalize bs t = T1 at *
          generalize bs t' = T2 at *
          go_wp2_with fail
          go_quiet (fail)
          have hbi2 := below_drewN HBi.out nq
          clear HBi z1 z2 z3 z4 q6 q7 hxb y1 y2 y3 y4
          go_wp2_with fail
          go_roundw
          case rel => exact ⟨q + 1, by omega, by go_num, hbi2⟩
          case measure => simp [intOf]; omega
        · have hqn : q = ids.length := by omega
          subst hqn
          go_wp2_with fail
          go_roundw
          case rel => exact ⟨j + 1, by omega, by go_num, hbi⟩
          case measure => simp [intOf]; omega
    · have hje : j = args.length := by omega
      subst hje
      go_wp2_with fail
      go_ret
      exact ⟨rfl, HB0.out.trans (hbel.mono (by have := HB0.out.size; have := HNw.out; omega))⟩
end Go.Proofs.Ytamgbeinmfgglaa

namespace Go.Proofs.Ytamgbeinmfgglaa
open Go.RowKit

theorem kindAt_of {L : List Ent} {n : Nat} {e : Ent} (he : L[n]? = some e) : kindAt L (n : Int) = (e.sh.kind : Int) := by
  have h : at_ L (n : Int) = some e := by
    unfold at_
    rw [if_pos (by omega)]
    simpa using he
  simp [kindAt, h]
theorem sizeAt_some {L : List Ent} {n : Nat} {e : Ent} (he : L[n]? = some e) : sizeAt L (n : Int) = (e.size : Int) := by
  have h : at_ L (n : Int) = some e := by
    unfold at_
    rw [if_pos (by omega)]
    simpa using he
  simp [sizeAt, h]
theorem kindAt_none (L : List Ent) : kindAt L (-1) = 0 := by simp [kindAt, at_no (L := L) (i := -1) (.inl (by omega))]
theorem sizeAt_none (L : List Ent) : sizeAt L (-1) = 0 := by simp [sizeAt, at_no (L := L) (i := -1) (.inl (by omega))]

def argsI (e : Ent) : List Int := e.sh.args.map fun (u : Nat) => (u : Int)
theorem argsI_len (e : Ent) : (argsI e).length = e.sh.args.length := by simp [argsI]

/-- View of a term, its arguments cell for cell. -/
theorem view_cells {B A : Nat} {L : List Ent} {F : Nat → Prop} {w : World} (ha : ArenaAt B A L F w) {n : Nat} {e : Ent} (he : L[n]? = some e) :
    Calls Try.prog 16 #[.pointer (some ⟨A, 0, none⟩), .int .i64 n] w fun r w' => ∃ g, r = .returned (.tuple #[.agg #[.int .i64 e.sh.kind, .int .i64 e.sh.a, .int .i64 e.sh.b, .string e.sh.s, .slice (some ⟨g, 0, none⟩) (argsI e).length (argsI e).length], .bool true]) ∧
      (argsI e ≠ [] → g < w'.heap.size ∧ ∀ (j : Nat) (i : Int), (argsI e)[j]? = some i → w'.cell? ⟨g, 0 + j, none⟩ = some (.int .i64 i)) ∧ Below w.heap.size w w' :=
  (View_some ha he).mono fun r w' ⟨g, h1, h2, h3⟩ => by
    refine ⟨g, by rw [argsI_len]; exact h1, fun hne => ?_, h3⟩
    have hne' : e.sh.args ≠ [] := fun h => hne (by simp [argsI, h])
    obtain ⟨x, hx⟩ : ∃ x, e.sh.args[0]? = some x := ⟨_, List.getElem?_eq_getElem (List.length_pos_iff.2 hne')⟩
    have h0 := owns_cell h2 hx
    refine ⟨World.block_lt_of_cell? w' _ h0.1, fun j i hj => ?_⟩
    simp only [argsI, List.getElem?_map, Option.map_eq_some_iff] at hj
    obtain ⟨u, hu, rfl⟩ := hj
    rw [Nat.zero_add]
    exact (owns_cell h2 hu).1

/-- The document's View of a term's text. -/
theorem refView_cells {L : List Ent} (hG : Good L) {n : Nat} {e : Ent} (he : L[n]? = some e) (w : World) :
    Calls Try.prog 20 #[.string (bs (enc L n))] w fun r w' => ∃ ay cy, r = .returned (.agg #[.int .i64 e.sh.kind, .int .i64 e.sh.a, .int .i64 e.sh.b, .string e.sh.s, .slice ay (argsI e).length cy]) ∧
      (argsI e ≠ [] → ∃ b off, ay = some ⟨b, off, none⟩ ∧ b < w'.heap.size ∧ ∀ (j : Nat) (t : List UInt8), (e.sh.args.map (enc L))[j]? = some t → w'.cell? ⟨b, off + j, none⟩ = some (.string (bs t))) ∧ Below w.heap.size w w' := by
  have hlen : (enc L n).length ≤ 1000000 := by
    rw [enc_length hG n e he]
    have := hG.wf.size e (List.mem_of_getElem? he)
    omega
  have hargs : ∀ x ∈ (nodeOf (enc L n)).args, x ≠ [] := fun x hx => by
    rw [nodeOf_enc hG he] at hx
    obtain ⟨u, hu, rfl⟩ := List.mem_map.1 hx
    exact enc_ne hG (Nat.lt_trans ((hG.wf.ok n e he).args u hu) (List.getElem?_eq_some_iff.1 he).1)
  refine (refView_any (enc L n) hlen hargs w).mono fun r w' ⟨v, h1, h2, h3⟩ => ?_
  rw [nodeOf_enc hG he] at h1 h2
  obtain ⟨ay, cy, rfl, hc⟩ := h2
  refine ⟨ay, cy, by rw [h1, rnodeV]; simp only [nodeSh, bs_list, List.length_map, argsI_len], fun hne => ?_, h3⟩
  obtain ⟨b, off, rfl, hb, hcell⟩ := hc (by intro h; apply hne; simpa [nodeSh, argsI] using h)
  exact ⟨b, off, rfl, hb, fun j t hj => hcell j (bs t) (by simp only [nodeSh]; rw [List.getElem?_map, hj]; rfl)⟩
end Go.Proofs.Ytamgbeinmfgglaa

namespace Go.Proofs.Ytamgbeinmfgglaa
open Go.RowKit

theorem view_flag {B A : Nat} {L : List Ent} {F : Nat → Prop} {w : World} (ha : ArenaAt B A L F w) (t : Int) :
    Calls Try.prog 16 #[.pointer (some ⟨A, 0, none⟩), .int .i64 t] w fun r w' => ∃ (k a b : Int) (s : ByteArray) (ao : Option Addr) (n c : Nat), r = .returned (.tuple #[.agg #[.int .i64 k, .int .i64 a, .int .i64 b, .string s, .slice ao n c], .bool (decide (0 ≤ t ∧ t < (L.length : Int)))]) ∧ Below w.heap.size w w' := by
  by_cases h : 0 ≤ t ∧ t < (L.length : Int)
  · obtain ⟨n, rfl⟩ : ∃ n : Nat, t = n := ⟨t.toNat, by omega⟩
    have he : L[n]? = some (L[n]'(by omega)) := List.getElem?_eq_getElem (by omega)
    rw [decide_eq_true h]
    exact (view_cells ha he).mono fun r w' ⟨g, h1, _, h3⟩ => ⟨_, _, _, _, _, _, _, h1, h3⟩
  · rw [decide_eq_false h]
    exact (View_no ha t (by omega)).mono fun r w' ⟨h1, h3⟩ => ⟨_, _, _, _, _, _, _, h1, h3⟩

theorem below_go {w a b : World} (h : Below w.heap.size w a) (k : Below a.heap.size a b) : Below w.heap.size w b := h.trans (k.mono h.size)
theorem below_made {w a : World} (h : Below w.heap.size w a) (o : Obj) : Below w.heap.size w (a.alloc o) := h.alloc h.size o
/-- What the law's memory keeps while a term is compared. -/
structure VInv (W3 : World) (R g : Nat) (κ α β : Int) (s : ByteArray) (AI : List Int) (W : World) : Prop where
  row : Holds W R 36 #[.int .i64 κ, .int .i64 α, .int .i64 β, .string s, .slice (some ⟨g, 0, none⟩) AI.length AI.length]
  below : Below W3.heap.size W3 W
  args : AI ≠ [] → g < W.heap.size ∧ ∀ (j : Nat) (i : Int), AI[j]? = some i → W.cell? ⟨g, 0 + j, none⟩ = some (.int .i64 i)
theorem VInv.keep {W3 : World} {R g : Nat} {κ α β : Int} {s : ByteArray} {AI : List Int} {W W' : World} (h : VInv W3 R g κ α β s AI W) (hb : Below W.heap.size W W') : VInv W3 R g κ α β s AI W' :=
  ⟨Holds.moves h.row (Moves.ofBelow (S := nobody) hb) (fun h => h), h.below.trans (hb.mono h.below.size), fun hne => by
    obtain ⟨h1, h2⟩ := h.args hne
    exact ⟨Nat.lt_of_lt_of_le h1 hb.size, fun j i hj => (hb.cell (p := ⟨g, 0 + j, none⟩) h1).trans (h2 j i hj)⟩⟩
theorem VInv.cells {W3 : World} {R g : Nat} {κ α β : Int} {s : ByteArray} {AI : List Int} {W : World} (h : VInv W3 R g κ α β s AI W) :
    W.cell? ⟨R, 0, none⟩ = some (.int .i64 κ) ∧ W.cell? ⟨R, 1, none⟩ = some (.int .i64 α) ∧ W.cell? ⟨R, 2, none⟩ = some (.int .i64 β) ∧ W.cell? ⟨R, 3, none⟩ = some (.string s) ∧ W.cell? ⟨R, 4, none⟩ = some (.slice (some ⟨g, 0, none⟩) AI.length AI.length) :=
  ⟨by simpa using h.row.cell 0, by simpa using h.row.cell 1, by simpa using h.row.cell 2, by simpa using h.row.cell 3, by simpa using h.row.cell 4⟩

set_option maxHeartbeats 8000000 in
set_option maxRecDepth 100000 in
theorem termViews_any {w : World} {v : Value} {l : List MakeR} (tt : Int) (hM : MakesAt w v l) (hs : ∀ x ∈ l, x.s.length ≤ 9223372036854775807) (hl : l.length ≤ 9223372036854775807) :
    Calls Try.prog 4 #[v, .int .i64 tt] w fun e w' => e = .returned (.bool true) ∧ Below w.heap.size w w' := by
  have HFw := Lib.hid (few_any hM 30 hs hl)
  cases hf : fewP l 30 with
  | false =>
    rw [hf] at HFw
    go_enter Try.func4, Try.ntmps4
    go_wp2_with (first
      | (go_at_call 11; with_reducible refine HFw.out.mono ?_; rintro e w1 ⟨rfl, hw⟩; have hw := hw.symm; subst hw)
      | (go_at_call 12; refine (awake1_any _).mono ?_; rintro e w2 ⟨rfl, b2⟩))
    go_ret
    exact ⟨rfl, b2⟩
  | true =>
    rw [hf] at HFw
    obtain ⟨hl30, hs2⟩ := of_decide_eq_true hf
    have hl30 : l.length ≤ 30 := by omega
    have HMk : Hid (∀ (A : Nat) (F : Nat → Prop) (w1 : World), ArenaAt w.heap.size A [] F w1 → Below w.heap.size w w1 → Calls Try.prog 14 #[.pointer (some ⟨A, 0, none⟩), v] w1 fun e w' => ∃ L ids texts ai ci at' ct F2, MadeTo [] l L ids texts ∧ e = .returned (.agg #[.slice ai l.length ci, .slice at' l.length ct]) ∧
        (l ≠ [] → ∃ bi oi bt ot, ai = some ⟨bi, oi, none⟩ ∧ at' = some ⟨bt, ot, none⟩ ∧ bi < w'.heap.size ∧ bt < w'.heap.size ∧ ∀ k i t, ids[k]? = some i → texts[k]? = some t → w'.cell? ⟨bi, oi + k, none⟩ = some (.int .i64 i) ∧ w'.cell? ⟨bt, ot + k, none⟩ = some (.string (bs t))) ∧ ArenaAt w.heap.size A L F2 w' ∧ Below w.heap.size w1 w') := fun A F w1 ha b1 =>
      (makes_any hM b1 (Nat.le_refl _) ha (by omega) (fun x hx => by have := hs2 x hx; omega) (made_ok (by omega))).mono (by
        rintro e w' ⟨L, ids, texts, vi, vt, F2, hto, rfl, ⟨ai, ci, rfl, hI⟩, ⟨at', ct, rfl, hT⟩, har, b2⟩
        have hln := hto.lens
        refine ⟨L, ids, texts, ai, ci, at', ct, F2, hto, by rw [List.length_map, hln.1, hln.2], fun hne => ?_, har, b2⟩
        obtain ⟨bi, oi, rfl, hbi, hci⟩ := hI (by intro h; rw [h] at hln; exact hne (List.eq_nil_of_length_eq_zero hln.1.symm))
        obtain ⟨bt, ot, rfl, hbt, hct⟩ := hT (by intro h; simp at h; rw [h] at hln; exact hne (List.eq_nil_of_length_eq_zero hln.2.symm))
        exact ⟨bi, oi, bt, ot, rfl, rfl, hbi, hbt, fun k i t h1 h2 => ⟨hci k i h1, hct k (bs t) (by simp [h2])⟩⟩)
    obtain ⟨ao0, cap0, rfl, _⟩ := hM
    clear hs hl hs2 hf
    go_enter Try.func4, Try.ntmps4
    go_wp2_with (first
      | (go_at_call 11; with_reducible refine HFw.out.mono ?_; rintro e w1 ⟨rfl, hw⟩; have hw := hw.symm; subst hw)
      | (go_at_call 13; refine (New_any _).mono ?_; rintro e w1 ⟨A, F, rfl, ha1, b1⟩)
      | (go_at_call 14; with_reducible refine (HMk.out _ _ _ ha1 b1).mono ?_; rintro e w2 ⟨L, ids, texts, ai, ci, at', ct, F2, hto, rfl, hcells, har, b2⟩))
    have hln := hto.lens
    have hA := hto.all exp_same (by omega)
    have hO := hto.order (by omega)
    obtain ⟨W3, hW3⟩ : ∃ W3, W3 = w2.alloc (.cells #[.slice ai l.length ci, .slice at' l.length ct] 30) := ⟨_, rfl⟩
    have hN3 : Holds W3 w2.heap.size 30 #[.slice ai l.length ci, .slice at' l.length ct] := by rw [hW3]; exact Holds.new _ _ _
    have hb3 : Below w2.heap.size w2 W3 := by rw [hW3]; exact (Below.refl _ _).alloc (Nat.le_refl _) _
    have har3 := har.below hb3
    have hbw3 : Below w.heap.size w W3 := (b1.trans b2).trans (hb3.mono (Nat.le_trans b1.size b2.size))
    rw [← hW3]
    have HC := Lib.hid hcells
    have HN3 := Lib.hid hN3
    have HB3 := Lib.hid hb3
    have HBw := Lib.hid hbw3
    have HAr := Lib.hid har3
    have HA := Lib.hid hA
    have HO := Lib.hid hO
    have hNl := hN3.lt
    obtain ⟨hil, htl⟩ := hln
    clear hcells hW3 hN3 hb3 har har3 hbw3 b1 b2 ha1 hto HMk HFw hA hO
    generalize w2.heap.size = N at *
    have HTA : Hid (∀ (k : Nat) (i : Int) (t : List UInt8), ids[k]? = some i → texts[k]? = some t → TAt L i t) := fun k i t hi ht => HA.out.pairs.at_ k i t hi ht
    have HG : Hid (Good L) := HA.out.good
    clear HO HA
    have hN0 : Hid (∀ W, Below W3.heap.size W3 W → W.cell? ⟨N, 0, none⟩ = some (.slice ai l.length ci) ∧ W.cell? ⟨N, 1, none⟩ = some (.slice at' l.length ct)) := fun W hb => by
      have h := HN3.out
      have h0 := h.cell 0
      have h1 := h.cell 1
      simp only [List.getElem?_toArray, List.getElem?_cons_zero, List.getElem?_cons_succ] at h0 h1
      exact ⟨(hb.cell (p := ⟨N, 0, none⟩) hNl).trans h0, (hb.cell (p := ⟨N, 1, none⟩) hNl).trans h1⟩
    have hCC : Hid (∀ W, Below W3.heap.size W3 W → ids ≠ [] → ∃ bi oi bt ot, ai = some ⟨bi, oi, none⟩ ∧ at' = some ⟨bt, ot, none⟩ ∧ bi < W.heap.size ∧ bt < W.heap.size ∧ ∀ (k : Nat) (i : Int) (t : List UInt8), ids[k]? = some i → texts[k]? = some t → W.cell? ⟨bi, oi + k, none⟩ = some (.int .i64 i) ∧ W.cell? ⟨bt, ot + k, none⟩ = some (.string (bs t))) := fun W hb hne => by
      obtain ⟨bi, oi, bt, ot, e1, e2, hbi, hbt, h⟩ := HC.out (by rintro rfl; exact hne (List.eq_nil_of_length_eq_zero hil))
      have hs := hb.size
      refine ⟨bi, oi, bt, ot, e1, e2, by omega, by omega, fun k i t hi ht => ?_⟩
      obtain ⟨a, b⟩ := h k i t hi ht
      exact ⟨((hb.cell (p := ⟨bi, oi + k, none⟩) (by show bi < _; omega)).trans (HB3.out.cell (p := ⟨bi, oi + k, none⟩) hbi)).trans a, ((hb.cell (p := ⟨bt, ot + k, none⟩) (by show bt < _; omega)).trans (HB3.out.cell (p := ⟨bt, ot + k, none⟩) hbt)).trans b⟩
    clear HC HN3 HB3
    have HIL := Lib.hid hil
    have HTL := Lib.hid htl
    clear hil htl
    go_loopw [7] (fun i wr => ∃ k : Nat, k ≤ l.length ∧ i = .int .i64 k ∧ Below W3.heap.size W3 wr) (fun i _ => l.length - (intOf i).toNat)
    case atStart => exact ⟨0, Nat.zero_le _, rfl, Below.refl _ _⟩
    case round =>
      obtain ⟨k, hk, rfl, hbel⟩ := hrel
      by_cases hlt : k < l.length
      · obtain ⟨i, hi⟩ : ∃ i, ids[k]? = some i := ⟨_, List.getElem?_eq_getElem (by have := HIL.out; omega)⟩
        obtain ⟨t, ht⟩ : ∃ t, texts[k]? = some t := ⟨_, List.getElem?_eq_getElem (by have := HTL.out; omega)⟩
        have hne : ids ≠ [] := by rintro rfl; simp at hi
        obtain ⟨y0, y1⟩ := hN0.out wr hbel
        obtain ⟨bi, oi, bt, ot, rfl, rfl, _, _, hcc⟩ := hCC.out wr hbel hne
        obtain ⟨y2, y3⟩ := hcc k i t hi ht
        have hT := HTA.out k i t hi ht
        have HI := Lib.hid hi
        have HT := Lib.hid ht
        have HNE := Lib.hid hne
        clear hi ht hne hcc
        have HCells : Hid (∀ W, Below W3.heap.size W3 W → W.cell? ⟨N, 0, none⟩ = some (.slice (some ⟨bi, oi, none⟩) l.length ci) ∧ W.cell? ⟨N, 1, none⟩ = some (.slice (some ⟨bt, ot, none⟩) l.length ct) ∧ W.cell? ⟨bi, oi + k, none⟩ = some (.int .i64 i) ∧ W.cell? ⟨bt, ot + k, none⟩ = some (.string (bs t))) := fun W hb => by
          obtain ⟨a0, a1⟩ := hN0.out W hb
          obtain ⟨_, _, _, _, e1, e2, _, _, hcc⟩ := hCC.out W hb HNE.out
          cases e1; cases e2
          obtain ⟨a2, a3⟩ := hcc k i t HI.out HT.out
          exact ⟨a0, a1, a2, a3⟩
        rcases hT with ⟨rfl, rfl⟩ | ⟨n, rfl, hn, rfl⟩
        · have hie : (bs ([] : List UInt8)).toList.isEmpty = true := none_yes rfl
          generalize bs ([] : List UInt8) = T at *
          have HV : Hid (∀ W, Below W3.heap.size W3 W → Calls Try.prog 16 #[.pointer (some ⟨A, 0, none⟩), .int .i64 (-1)] W fun r w' => r = .returned (.tuple #[.agg #[.int .i64 0, .int .i64 0, .int .i64 0, .string ⟨#[]⟩, .slice none 0 0], .bool false]) ∧ Below W.heap.size W w') := fun W hb => View_no (HAr.out.below hb) (-1) (.inl (by omega))
          have HK : Hid (∀ W, Below W3.heap.size W3 W → Calls Try.prog 17 #[.pointer (some ⟨A, 0, none⟩), .int .i64 (-1)] W fun e w' => e = .returned (.int .i64 0) ∧ W = w') := fun W hb => by have := Kind_any (HAr.out.below hb) (-1); rwa [kindAt_none] at this
          have HS : Hid (∀ W, Below W3.heap.size W3 W → Calls Try.prog 18 #[.pointer (some ⟨A, 0, none⟩), .int .i64 (-1)] W fun e w' => e = .returned (.int .i64 0) ∧ W = w') := fun W hb => by have := Size_any (HAr.out.below hb) (-1); rwa [sizeAt_none] at this
          have HBel := Lib.hid hbel
          clear hbel
          go_wp2_with (first
            | (go_at_call 16; with_reducible refine (HV.out _ HBel.out).mono ?_; rintro e w4 ⟨rfl, b4⟩; have hb5 := (HBel.out.trans (b4.mono HBel.out.size)).alloc (HBel.out.trans (b4.mono HBel.out.size)).size (.cells #[.int .i64 0, .int .i64 0, .int .i64 0, .string ⟨#[]⟩, .slice none 0 0] 36); obtain ⟨z0, z1, z2, z3⟩ := HCells.out _ hb5; have HB5 := Lib.hid hb5; clear hb5)
            | (go_at_call 17; with_reducible refine (HK.out _ HB5.out).mono ?_; rintro e w6 ⟨rfl, hw⟩; have hw := hw.symm; subst hw)
            | (go_at_call 18; with_reducible refine (HS.out _ HB5.out).mono ?_; rintro e w7 ⟨rfl, hw⟩; have hw := hw.symm; subst hw))
          go_roundw
          case rel => exact ⟨k + 1, by omega, by go_num, HB5.out⟩
          case measure => simp [intOf]; omega
        · obtain ⟨e, he⟩ : ∃ e, L[n]? = some e := ⟨_, List.getElem?_eq_getElem hn⟩
          have hie : (bs (enc L n)).toList.isEmpty = false := none_no (enc_ne HG.out hn)
          have hsz : (e.size : Int) = ((bs (enc L n)).size : Int) := by rw [bs_size, enc_length HG.out n e he]
          have hok := HG.out.wf.ok n e he
          have HV : Hid (∀ W, Below W3.heap.size W3 W → Calls Try.prog 16 #[.pointer (some ⟨A, 0, none⟩), .int .i64 (n : Int)] W fun r w' => ∃ g, r = .returned (.tuple #[.agg #[.int .i64 e.sh.kind, .int .i64 e.sh.a, .int .i64 e.sh.b, .string e.sh.s, .slice (some ⟨g, 0, none⟩) (argsI e).length (argsI e).length], .bool true]) ∧
              (argsI e ≠ [] → g < w'.heap.size ∧ ∀ (j : Nat) (i : Int), (argsI e)[j]? = some i → w'.cell? ⟨g, 0 + j, none⟩ = some (.int .i64 i)) ∧ Below W.heap.size W w') := fun W hb => view_cells (HAr.out.below hb) he
          have HRV : Hid (∀ W, Calls Try.prog 20 #[.string (bs (enc L n))] W fun r w' => ∃ ay cy, r = .returned (.agg #[.int .i64 e.sh.kind, .int .i64 e.sh.a, .int .i64 e.sh.b, .string e.sh.s, .slice ay (argsI e).length cy]) ∧
              (argsI e ≠ [] → ∃ b off, ay = some ⟨b, off, none⟩ ∧ b < w'.heap.size ∧ ∀ (j : Nat) (t : List UInt8), (e.sh.args.map (enc L))[j]? = some t → w'.cell? ⟨b, off + j, none⟩ = some (.string (bs t))) ∧ Below W.heap.size W w') := fun W => refView_cells HG.out he W
          have HK : Hid (∀ W, Below W3.heap.size W3 W → Calls Try.prog 17 #[.pointer (some ⟨A, 0, none⟩), .int .i64 (n : Int)] W fun r w' => r = .returned (.int .i64 e.sh.kind) ∧ W = w') := fun W hb => by have := Kind_any (HAr.out.below hb) (n : Int); rwa [kindAt_of he] at this
          have HS : Hid (∀ W, Below W3.heap.size W3 W → Calls Try.prog 18 #[.pointer (some ⟨A, 0, none⟩), .int .i64 (n : Int)] W fun r w' => r = .returned (.int .i64 ((bs (enc L n)).size : Int)) ∧ W = w') := fun W hb => by have := Size_any (HAr.out.below hb) (n : Int); rwa [sizeAt_some he, hsz] at this
          have HPair : Hid (∀ (q j : Nat) (i i' : Int) (t t' : List UInt8), ids[q]? = some i → texts[q]? = some t → (argsI e)[j]? = some i' → (e.sh.args.map (enc L))[j]? = some t' → ∃ b : Bool, (i == i') = b ∧ ((bs t).toList == (bs t').toList) = b) := fun q j i i' t t' h1 h2 h3 h4 => by
            simp only [argsI, List.getElem?_map, Option.map_eq_some_iff] at h3 h4
            obtain ⟨u, hu, rfl⟩ := h3
            obtain ⟨u', hu', rfl⟩ := h4
            rw [hu] at hu'
            obtain rfl := Option.some.inj hu'
            have hul : u < L.length := Nat.lt_trans (hok.args u (List.mem_of_getElem? hu)) hn
            have h := (HTA.out q i t h1 h2).same HG.out (.inr ⟨u, rfl, hul, rfl⟩ : TAt L (u : Int) (enc L u))
            by_cases hiu : i = (u : Int)
            · exact ⟨true, by simpa using hiu, same_yes (congrArg bs (h.1 hiu))⟩
            · exact ⟨false, by simpa using hiu, same_no fun e => hiu (h.2 (bs_inj e))⟩
          have HSame : Hid (∀ (W : World) (g : Nat) (ay : Option Addr) (cy : Nat), Below W3.heap.size W3 W → (argsI e ≠ [] → g < W.heap.size ∧ ∀ (j : Nat) (i : Int), (argsI e)[j]? = some i → W.cell? ⟨g, 0 + j, none⟩ = some (.int .i64 i)) → (argsI e ≠ [] → ∃ b off, ay = some ⟨b, off, none⟩ ∧ b < W.heap.size ∧ ∀ (j : Nat) (t : List UInt8), (e.sh.args.map (enc L))[j]? = some t → W.cell? ⟨b, off + j, none⟩ = some (.string (bs t))) →
              Calls Try.prog 19 #[.agg #[.slice (some ⟨bi, oi, none⟩) l.length ci, .slice (some ⟨bt, ot, none⟩) l.length ct], .agg #[.int .i64 e.sh.kind, .int .i64 e.sh.a, .int .i64 e.sh.b, .string e.sh.s, .slice (some ⟨g, 0, none⟩) (argsI e).length (argsI e).length], .agg #[.int .i64 e.sh.kind, .int .i64 e.sh.a, .int .i64 e.sh.b, .string e.sh.s, .slice ay (argsI e).length cy]] W fun r w' => r = .returned (.bool true) ∧ Below W.heap.size W w') := fun W g ay cy hb hx hy => by
            have := msame_any (w := W) (ids := ids) (args := argsI e) (texts := texts) (targs := e.sh.args.map (enc L)) (some ⟨bi, oi, none⟩) (some ⟨bt, ot, none⟩) (some ⟨g, 0, none⟩) ay ci ct (argsI e).length cy e.sh.kind e.sh.a e.sh.b e.sh.s (by rw [HIL.out, HTL.out]) (by rw [argsI_len, List.length_map]) (by rw [HIL.out]; omega) (by rw [argsI_len]; have := hok.many; omega) (hCC.out W hb) (fun hne => by
              obtain ⟨h1, h2⟩ := hx hne
              obtain ⟨b, off, rfl, h3, h4⟩ := hy hne
              exact ⟨g, 0, b, off, rfl, rfl, h1, h3, fun j i t hi ht => ⟨h2 j i hi, h4 j t ht⟩⟩) HPair.out
            rw [HIL.out] at this
            exact this
          generalize bs (enc L n) = T at *
          have HBel := Lib.hid hbel
          clear hbel hsz hok
          generalize hAI : argsI e = AI at *
          clear hAI
          generalize e.sh.args.map (enc L) = TG at *
          obtain ⟨shp, sz⟩ := e
          obtain ⟨κ0, α0, β0, s, gg⟩ := shp
          simp only at *
          generalize (κ0 : Int) = κ at *
          generalize (α0 : Int) = α at *
          generalize (β0 : Int) = β at *
          have hkk : (κ != κ) = false := by simp
          have hss : ((T.size : Int) != (T.size : Int)) = false := by simp
          clear HPair he
          go_wp2_with (
            (go_at_call 16; with_reducible refine (HV.out _ HBel.out).mono ?_; rintro e w4 ⟨g, rfl, hg4, b4⟩; have hb5 := (HBel.out.trans (b4.mono HBel.out.size)).alloc (HBel.out.trans (b4.mono HBel.out.size)).size (.cells #[.int .i64 κ, .int .i64 α, .int .i64 β, .string s, .slice (some ⟨g, 0, none⟩) AI.length AI.length] 36); obtain ⟨z0, z1, z2, z3⟩ := HCells.out _ hb5; have HB5 := Lib.hid hb5; have HG4 := Lib.hid hg4; clear hb5 hg4))
          have hI5 : VInv W3 w4.heap.size g κ α β s AI (w4.alloc (.cells #[.int .i64 κ, .int .i64 α, .int .i64 β, .string s, .slice (some ⟨g, 0, none⟩) AI.length AI.length] 36)).drew := by
            refine ⟨Holds.new w4 _ _, HB5.out.drew, fun hne => ?_⟩
            obtain ⟨h1, h2⟩ := HG4.out hne
            exact ⟨by show g < (w4.alloc _).heap.size; rw [World.size_alloc]; omega, fun j i hj => ((((Below.refl w4.heap.size w4).alloc (Nat.le_refl _) (.cells #[.int .i64 κ, .int .i64 α, .int .i64 β, .string s, .slice (some ⟨g, 0, none⟩) AI.length AI.length] 36)).drew).cell (p := ⟨g, 0 + j, none⟩) h1).trans (h2 j i hj)⟩
          have c9 := hI5.cells
          have c4 := HCells.out _ hI5.below
          have HI5 := Lib.hid hI5
          clear hI5 HB5 HG4 z0 z1 z2 z3 y0 y1 y2 y3 HV b4
          generalize (w4.alloc (.cells #[.int .i64 κ, .int .i64 α, .int .i64 β, .string s, .slice (some ⟨g, 0, none⟩) AI.length AI.length] 36)) = W5 at *
          generalize w4.heap.size = R at *
          obtain ⟨x4, x5, x6, x7⟩ := c4
          obtain ⟨x0, x1, x2, x3, x8⟩ := c9
          have HKeep : Hid (∀ W W' : World, VInv W3 R g κ α β s AI W → Below W.heap.size W W' → VInv W3 R g κ α β s AI W' ∧ (W'.cell? ⟨N, 0, none⟩ = some (.slice (some ⟨bi, oi, none⟩) l.length ci) ∧ W'.cell? ⟨N, 1, none⟩ = some (.slice (some ⟨bt, ot, none⟩) l.length ct) ∧ W'.cell? ⟨bi, oi + k, none⟩ = some (.int .i64 (n : Int)) ∧ W'.cell? ⟨bt, ot + k, none⟩ = some (.string T) ∧ W'.cell? ⟨R, 0, none⟩ = some (.int .i64 κ) ∧ W'.cell? ⟨R, 1, none⟩ = some (.int .i64 α) ∧ W'.cell? ⟨R, 2, none⟩ = some (.int .i64 β) ∧ W'.cell? ⟨R, 3, none⟩ = some (.string s) ∧ W'.cell? ⟨R, 4, none⟩ = some (.slice (some ⟨g, 0, none⟩) AI.length AI.length))) := fun W W' h hb => by
            have h' := h.keep hb
            have c4 := HCells.out _ h'.below
            have c9 := h'.cells
            exact ⟨h', c4.1, c4.2.1, c4.2.2.1, c4.2.2.2, c9.1, c9.2.1, c9.2.2.1, c9.2.2.2.1, c9.2.2.2.2⟩
          go_region_held3 (fun w' => w'.cell? ⟨N, 0, none⟩ = some (.slice (some ⟨bi, oi, none⟩) l.length ci) ∧ w'.cell? ⟨N, 1, none⟩ = some (.slice (some ⟨bt, ot, none⟩) l.length ct) ∧ w'.cell? ⟨bi, oi + k, none⟩ = some (.int .i64 (n : Int)) ∧ w'.cell? ⟨bt, ot + k, none⟩ = some (.string T) ∧ w'.cell? ⟨R, 0, none⟩ = some (.int .i64 κ) ∧ w'.cell? ⟨R, 1, none⟩ = some (.int .i64 α) ∧ w'.cell? ⟨R, 2, none⟩ = some (.int .i64 β) ∧ w'.cell? ⟨R, 3, none⟩ = some (.string s) ∧ w'.cell? ⟨R, 4, none⟩ = some (.slice (some ⟨g, 0, none⟩) AI.length AI.length))
            (first | with_reducible exact ⟨x4, x5, x6, x7, x0, x1, x2, x3, x8⟩ | with_reducible exact v6 | with_reducible exact v7 | go_keep)
            (first
              | (go_at_call 20; with_reducible refine (HRV.out _).mono ?_; rintro e w6 ⟨ay, cy, rfl, h6, b6⟩; obtain ⟨i6, v6⟩ := HKeep.out _ _ HI5.out b6; have HI6 := Lib.hid i6; have H6 := Lib.hid h6; clear i6 h6)
              | (go_at_call 19; with_reducible refine (HSame.out _ _ _ _ HI6.out.below HI6.out.args H6.out).mono ?_; rintro e w7 ⟨rfl, b7⟩; obtain ⟨i7, v7⟩ := HKeep.out _ _ HI6.out b7; have HI7 := Lib.hid i7; clear i7)
              | (go_at_call 17; with_reducible refine (HK.out _ HI7.out.below).mono ?_; rintro e w8 ⟨rfl, hw⟩; have hw := hw.symm; subst hw)
              | (go_at_call 18; with_reducible refine (HS.out _ HI7.out.below).mono ?_; rintro e w9 ⟨rfl, hw⟩; have hw := hw.symm; subst hw))
          go_wp2_with fail
          go_roundw
          case rel => exact ⟨k + 1, by omega, by go_num, HI7.out.below⟩
          case measure => simp [intOf]; omega
      · have hkl : k = l.length := by omega
        subst hkl
        clear hlt
        have HVF : Hid (∀ W, Below W3.heap.size W3 W → Calls Try.prog 16 #[.pointer (some ⟨A, 0, none⟩), .int .i64 tt] W fun r w' => ∃ (k a b : Int) (s : ByteArray) (ao : Option Addr) (n c : Nat), r = .returned (.tuple #[.agg #[.int .i64 k, .int .i64 a, .int .i64 b, .string s, .slice ao n c], .bool (decide (0 ≤ tt ∧ tt < (L.length : Int)))]) ∧ Below W.heap.size W w') := fun W hb => view_flag (HAr.out.below hb) tt
        have HVN : Hid (∀ W, Calls Try.prog 16 #[.pointer none, .int .i64 0] W fun r w' => r = .returned (.tuple #[.agg #[.int .i64 0, .int .i64 0, .int .i64 0, .string ⟨#[]⟩, .slice none 0 0], .bool false]) ∧ Below W.heap.size W w') := fun W => View_nil 0 W
        have HLen : Hid (∀ W, Below W3.heap.size W3 W → Calls Try.prog 15 #[.pointer (some ⟨A, 0, none⟩)] W fun e w' => e = .returned (.int .i64 L.length) ∧ W = w') := fun W hb => Len_any (HAr.out.below hb)
        have HLN := Lib.hid Len_nil
        have HKN := Lib.hid (Kind_nil 0)
        have HSN := Lib.hid (Size_nil 0)
        have HDN := Lib.hid (Data_nil ⟨#[]⟩)
        have HTN := Lib.hid List_nil
        have HAW := Lib.hid awake1_any
        have HBel := Lib.hid hbel
        have hcase : (tt < 0) ∨ (0 ≤ tt ∧ tt < (L.length : Int)) ∨ (0 ≤ tt ∧ ¬ tt < (L.length : Int)) := by omega
        clear hbel hCC hN0 HTA
        generalize (L.length : Int) = ln at *
        rcases hcase with h1 | ⟨h1, h2⟩ | ⟨h1, h2⟩
        · have q1 : decide (tt ≥ 0) = false := decide_eq_false (by omega)
          have q2 : decide (0 ≤ tt ∧ tt < ln) = false := decide_eq_false (by omega)
          rw [q2] at HVF
          clear h1 q2
          go_wp2_with (first
            | (go_at_call 16; with_reducible refine (HVF.out _ HBel.out).mono ?_; rintro e w4 ⟨vk, va, vb, vs, vao, vn, vc, rfl, b4⟩; have hb5 := HBel.out.trans (b4.mono HBel.out.size); have HB5 := Lib.hid hb5; clear hb5)
            | (go_at_call 16; with_reducible refine (HVN.out _).mono ?_; rintro e w5 ⟨rfl, b5⟩)
            | (go_at_call 12; with_reducible refine (HAW.out _).mono ?_; rintro e w6 ⟨rfl, b6⟩; have HB6 := Lib.hid (below_go (below_made (below_go (below_made HB5.out _) b5) _) b6))
            | (go_at_call 15; with_reducible refine (HLN.out _).mono ?_; rintro e w7 ⟨rfl, hw⟩; subst hw)
            | (go_at_call 15; with_reducible refine (HLen.out _ HB6.out).mono ?_; rintro e w7 ⟨rfl, hw⟩; have hw := hw.symm; subst hw)
            | (go_at_call 21; with_reducible refine (HDN.out _).mono ?_; rintro e w8 ⟨rfl, b8⟩)
            | (go_at_call 17; with_reducible refine (HKN.out _).mono ?_; rintro e w9 ⟨rfl, hw⟩; subst hw)
            | (go_at_call 18; with_reducible refine (HSN.out _).mono ?_; rintro e w10 ⟨rfl, hw⟩; subst hw)
            | (go_at_call 22; with_reducible refine (HTN.out _).mono ?_; rintro e w11 ⟨rfl, b11⟩))
          go_ret
          exact ⟨rfl, below_go HBw.out (below_go (below_go HB6.out b8) b11)⟩
        · have q1 : decide (tt ≥ 0) = true := decide_eq_true (by omega)
          have q2 : decide (0 ≤ tt ∧ tt < ln) = true := decide_eq_true ⟨h1, h2⟩
          have q3 : decide (tt < ln) = true := decide_eq_true h2
          rw [q2] at HVF
          clear h1 h2 q2
          go_wp2_with (first
            | (go_at_call 16; with_reducible refine (HVF.out _ HBel.out).mono ?_; rintro e w4 ⟨vk, va, vb, vs, vao, vn, vc, rfl, b4⟩; have hb5 := HBel.out.trans (b4.mono HBel.out.size); have HB5 := Lib.hid hb5; clear hb5)
            | (go_at_call 16; with_reducible refine (HVN.out _).mono ?_; rintro e w5 ⟨rfl, b5⟩)
            | (go_at_call 12; with_reducible refine (HAW.out _).mono ?_; rintro e w6 ⟨rfl, b6⟩; have HB6 := Lib.hid (below_go (below_made (below_go (below_made HB5.out _) b5) _) b6))
            | (go_at_call 15; with_reducible refine (HLN.out _).mono ?_; rintro e w7 ⟨rfl, hw⟩; subst hw)
            | (go_at_call 15; with_reducible refine (HLen.out _ HB6.out).mono ?_; rintro e w7 ⟨rfl, hw⟩; have hw := hw.symm; subst hw)
            | (go_at_call 21; with_reducible refine (HDN.out _).mono ?_; rintro e w8 ⟨rfl, b8⟩)
            | (go_at_call 17; with_reducible refine (HKN.out _).mono ?_; rintro e w9 ⟨rfl, hw⟩; subst hw)
            | (go_at_call 18; with_reducible refine (HSN.out _).mono ?_; rintro e w10 ⟨rfl, hw⟩; subst hw)
            | (go_at_call 22; with_reducible refine (HTN.out _).mono ?_; rintro e w11 ⟨rfl, b11⟩))
          go_ret
          exact ⟨rfl, below_go HBw.out (below_go (below_go HB6.out b8) b11)⟩
        · have q1 : decide (tt ≥ 0) = true := decide_eq_true (by omega)
          have q2 : decide (0 ≤ tt ∧ tt < ln) = false := decide_eq_false (fun h => h2 h.2)
          have q3 : decide (tt < ln) = false := decide_eq_false h2
          rw [q2] at HVF
          clear h1 h2 q2
          go_wp2_with (first
            | (go_at_call 16; with_reducible refine (HVF.out _ HBel.out).mono ?_; rintro e w4 ⟨vk, va, vb, vs, vao, vn, vc, rfl, b4⟩; have hb5 := HBel.out.trans (b4.mono HBel.out.size); have HB5 := Lib.hid hb5; clear hb5)
            | (go_at_call 16; with_reducible refine (HVN.out _).mono ?_; rintro e w5 ⟨rfl, b5⟩)
            | (go_at_call 12; with_reducible refine (HAW.out _).mono ?_; rintro e w6 ⟨rfl, b6⟩; have HB6 := Lib.hid (below_go (below_made (below_go (below_made HB5.out _) b5) _) b6))
            | (go_at_call 15; with_reducible refine (HLN.out _).mono ?_; rintro e w7 ⟨rfl, hw⟩; subst hw)
            | (go_at_call 15; with_reducible refine (HLen.out _ HB6.out).mono ?_; rintro e w7 ⟨rfl, hw⟩; have hw := hw.symm; subst hw)
            | (go_at_call 21; with_reducible refine (HDN.out _).mono ?_; rintro e w8 ⟨rfl, b8⟩)
            | (go_at_call 17; with_reducible refine (HKN.out _).mono ?_; rintro e w9 ⟨rfl, hw⟩; subst hw)
            | (go_at_call 18; with_reducible refine (HSN.out _).mono ?_; rintro e w10 ⟨rfl, hw⟩; subst hw)
            | (go_at_call 22; with_reducible refine (HTN.out _).mono ?_; rintro e w11 ⟨rfl, b11⟩))
          go_ret
          exact ⟨rfl, below_go HBw.out (below_go (below_go HB6.out b8) b11)⟩
end Go.Proofs.Ytamgbeinmfgglaa
