/- Part 16 of what the statement wants. -/
import Derived.BigQuiet
import Derived.Deep.RegionHeld3
import Derived.Test.YtkmhdepohcncaaaGreatDoorPk11
import Derived.Test.YtkmhdepohcncaaaGreatDoorPk14
namespace Go.Proofs.YtkmhdepohcncaaaGreatDoor
open Go.RowKit


theorem Kind_nil (i : Int) (w : World) : Calls Tryz.prog 16 #[.pointer none, .int .i64 i] w fun e w' => e = .returned (.int .i64 0) ∧ w' = w := by
  go_enter Tryz.func16, Tryz.ntmps16
  go_wp2_with (go_at_call 42; refine (has_nil _ _).mono ?_; rintro e w1 ⟨rfl, hw⟩; have hw := hw.symm; subst hw)
  go_ret
  exact ⟨rfl, rfl⟩
theorem Size_nil (i : Int) (w : World) : Calls Tryz.prog 31 #[.pointer none, .int .i64 i] w fun e w' => e = .returned (.int .i64 0) ∧ w' = w := by
  go_enter Tryz.func31, Tryz.ntmps31
  go_wp2_with (go_at_call 42; refine (has_nil _ _).mono ?_; rintro e w1 ⟨rfl, hw⟩; have hw := hw.symm; subst hw)
  go_ret
  exact ⟨rfl, rfl⟩
theorem build_nilD (s : ByteArray) (w : World) : Calls Tryz.prog 43 #[.pointer none, .agg #[.int .i64 1, .int .i64 0, .int .i64 0, .string s, .string ⟨#[]⟩], .int .i64 5, .slice none 0 0] w fun r w' => r = .returned (.int .i64 (-1)) ∧ Below w.heap.size w w' := build_nil ⟨1, 0, 0, s⟩ 5 _ w
theorem build_nilL (w : World) : Calls Tryz.prog 43 #[.pointer none, .agg #[.int .i64 10, .int .i64 0, .int .i64 0, .string ⟨#[]⟩, .string ⟨#[]⟩], .int .i64 5, .slice none 0 0] w fun r w' => r = .returned (.int .i64 (-1)) ∧ Below w.heap.size w w' := build_nil ⟨10, 0, 0, ⟨#[]⟩⟩ 5 _ w
theorem Data_nil (s : ByteArray) (w : World) : Calls Tryz.prog 18 #[.pointer none, .string s] w fun e w' => e = .returned (.int .i64 (-1)) ∧ Below w.heap.size w w' := by
  have HB := Lib.hid build_nilD
  go_enter Tryz.func18, Tryz.ntmps18
  go_wp2_with (go_at_call 43; with_reducible refine (HB.out _ _).mono ?_; rintro e w1 ⟨rfl, b1⟩)
  go_ret
  exact ⟨rfl, b1⟩
theorem List_nil (w : World) : Calls Tryz.prog 17 #[.pointer none, .slice none 0 0] w fun e w' => e = .returned (.int .i64 (-1)) ∧ Below w.heap.size w w' := by
  have HB := Lib.hid build_nilL
  go_enter Tryz.func17, Tryz.ntmps17
  go_wp2_with (go_at_call 43; with_reducible refine (HB.out _).mono ?_; rintro e w1 ⟨rfl, b1⟩)
  go_ret
  exact ⟨rfl, b1⟩

/-- View of what is no term. -/
theorem gone_row (w : World) : Holds (w.alloc (.cells #[.int .i64 0, .int .i64 0, .int .i64 0, .string ⟨#[]⟩, .slice none 0 0] 70)) w.heap.size 70 #[.int .i64 0, .int .i64 0, .int .i64 0, .string ⟨#[]⟩, .slice none 0 0] := Holds.new w _ _
set_option maxHeartbeats 2000000 in
theorem View_gone {p : Value} {i : Int} {w : World} (hh : ∀ W : World, Below w.heap.size w W → Calls Tryz.prog 42 #[p, .int .i64 i] W fun e w' => e = .returned (.bool false) ∧ W = w') :
    Calls Tryz.prog 28 #[p, .int .i64 i] w fun r w' => r = .returned (.tuple #[noNode, .bool false]) ∧ Below w.heap.size w w' := by
  have HH := Lib.hid (hh _ ((Below.refl _ _).alloc (Nat.le_refl _) (.cells #[.int .i64 0, .int .i64 0, .int .i64 0, .string ⟨#[]⟩, .slice none 0 0] 70)))
  have HN := Lib.hid (gone_row w)
  have HB : Hid (Below w.heap.size w (w.alloc (.cells #[.int .i64 0, .int .i64 0, .int .i64 0, .string ⟨#[]⟩, .slice none 0 0] 70))) := (Below.refl _ _).alloc (Nat.le_refl _) _
  clear hh
  go_enter Tryz.func28, Tryz.ntmps28
  go_wp2_with (go_at_call 42; with_reducible refine HH.out.mono ?_; rintro e w1 ⟨rfl, hw⟩; have hN := HN.out; have hB := HB.out; rw [hw] at hN hB; clear HH HN HB hw; have c0 := hN.cell 0; have c1 := hN.cell 1; have c2 := hN.cell 2; have c3 := hN.cell 3; have c4 := hN.cell 4; have f0 := hN.frozen 0; have f1 := hN.frozen 1; have f2 := hN.frozen 2; have f3 := hN.frozen 3; have f4 := hN.frozen 4)
  have hNf := Holds.set (Holds.set (Holds.set (Holds.set (Holds.set hN 0 (.int .i64 0)) 1 (.int .i64 0)) 2 (.int .i64 0)) 3 (.string ⟨#[]⟩)) 4 (.slice none 0 0)
  refine bodyPost_ret (v := .tuple #[noNode, .bool false]) ?_ rfl ⟨rfl, ?_⟩
  · exact run_cell_tmp rfl _ _ w.heap.size _ _ _ rfl rfl hNf Tryz.underlying70 rfl (by kernel_rfl)
  · exact ((((hB.setCell (p := ⟨w.heap.size, 0, none⟩) (Nat.le_refl _) _).setCell (p := ⟨w.heap.size, 1, none⟩) (Nat.le_refl _) _).setCell (p := ⟨w.heap.size, 2, none⟩) (Nat.le_refl _) _).setCell (p := ⟨w.heap.size, 3, none⟩) (Nat.le_refl _) _).setCell (p := ⟨w.heap.size, 4, none⟩) (Nat.le_refl _) _
theorem View_no {B A : Nat} {L : List Ent} {F : Nat → Prop} {w : World} (ha : ArenaAt B A L F w) (i : Int) (hi : i < 0 ∨ L.length ≤ i) :
    Calls Tryz.prog 28 #[.pointer (some ⟨A, 0, none⟩), .int .i64 i] w fun r w' => r = .returned (.tuple #[noNode, .bool false]) ∧ Below w.heap.size w w' :=
  View_gone fun _ hb => has_no (ha.below hb) i hi
theorem View_nil (i : Int) (w : World) : Calls Tryz.prog 28 #[.pointer none, .int .i64 i] w fun r w' => r = .returned (.tuple #[noNode, .bool false]) ∧ Below w.heap.size w w' :=
  View_gone fun W _ => has_nil i W

theorem rnode_row (w : World) : Holds (w.alloc (.cells #[.int .i64 0, .int .i64 0, .int .i64 0, .string ⟨#[]⟩, .slice none 0 0] 89)) w.heap.size 89 #[.int .i64 0, .int .i64 0, .int .i64 0, .string ⟨#[]⟩, .slice none 0 0] := Holds.new w _ _
set_option maxRecDepth 100000 in
theorem refView_any (d : List UInt8) (hd : d.length ≤ 1000000) (hne : ∀ x ∈ (nodeOf d).args, x ≠ []) (w : World) : Calls Tryz.prog 41 #[.string (bs d)] w fun e w' => ∃ v, e = .returned (rnodeV (nodeOf d) v) ∧ TextsAt w' v ((nodeOf d).args.map bs) ∧ Below w.heap.size w w' := by
  have HP : Hid (∀ W : World, Calls Tryz.prog 95 #[.string (bs d), .int .i64 0] W fun e w' => ∃ (ao : Option Addr) (nn cap : Nat) (en : Int) (ok : Bool), e = .returned (.tuple #[.agg #[.int .i64 (nodeOf d).k, .int .i64 ((nodeOf d).a : Int), .int .i64 ((nodeOf d).b : Int), .string (bs (nodeOf d).s), .slice ao nn cap], .int .i64 en, .bool ok]) ∧ TextsAt w' (.slice ao nn cap) ((nodeOf d).args.map bs) ∧ Below W.heap.size W w') := fun W =>
    (Parse_any d hd W).mono fun e w' ⟨v, h1, h2, h3⟩ => by
      obtain ⟨ao, cap, rfl, hc⟩ := id h2
      exact ⟨ao, _, cap, _, _, h1, h2, h3⟩
  have HN := Lib.hid (rnode_row w)
  have HB : Hid (Below w.heap.size w (w.alloc (.cells #[.int .i64 0, .int .i64 0, .int .i64 0, .string ⟨#[]⟩, .slice none 0 0] 89))) := (Below.refl _ _).alloc (Nat.le_refl _) _
  generalize nodeOf d = nd at *
  obtain ⟨xk, xa, xb, xs, l⟩ := nd
  unfold rnodeV
  simp only at *
  have HL := Lib.hid hne
  clear hne
  generalize bs xs = S at *
  generalize (xa : Int) = a at *
  generalize (xb : Int) = b at *
  go_enter Tryz.func41, Tryz.ntmps41
  go_wp2_with (go_at_call 95; with_reducible refine (HP.out _).mono ?_; rintro e w1 ⟨ao, nn, cap, en, ok, rfl, hT, b1⟩; have hN1 := Holds.moves HN.out (Moves.ofBelow (S := nobody) b1) (fun h => h); have hB := HB.out.trans (b1.mono HB.out.size); clear HN HB b1; have hN := Holds.moves hN1 ((Moves.refl nobody w1).alloc (.cells #[.int .i64 xk, .int .i64 a, .int .i64 b, .string S, .slice ao nn cap] 89)) (fun h => h); have c0 := hN.cell 0; have c1 := hN.cell 1; have c2 := hN.cell 2; have c3 := hN.cell 3; have c4 := hN.cell 4; have f0 := hN.frozen 0; have f1 := hN.frozen 1; have f2 := hN.frozen 2; have f3 := hN.frozen 3; have f4 := hN.frozen 4)
  have hNf := Holds.set (Holds.set (Holds.set (Holds.set (Holds.set hN 0 (.int .i64 xk)) 1 (.int .i64 a)) 2 (.int .i64 b)) 3 (.string S)) 4 (.slice ao nn cap)
  have ma : Moves (fun i => i = w.heap.size) w1 (w1.alloc (.cells #[.int .i64 xk, .int .i64 a, .int .i64 b, .string S, .slice ao nn cap] 89)) := (Moves.refl _ w1).alloc _
  have mf := ((((ma.setCell (p := ⟨w.heap.size, 0, none⟩) (.inl rfl) (.int .i64 xk)).setCell (p := ⟨w.heap.size, 1, none⟩) (.inl rfl) (.int .i64 a)).setCell (p := ⟨w.heap.size, 2, none⟩) (.inl rfl) (.int .i64 b)).setCell (p := ⟨w.heap.size, 3, none⟩) (.inl rfl) (.string S)).setCell (p := ⟨w.heap.size, 4, none⟩) (.inl rfl) (.slice ao nn cap)
  refine bodyPost_ret (v := .agg #[.int .i64 xk, .int .i64 a, .int .i64 b, .string S, .slice ao nn cap]) ?_ rfl ⟨_, rfl, ?_, ?_⟩
  · exact results_cell_row rfl _ _ w.heap.size _ _ (0, 0) _ rfl hNf Tryz.underlying89 rfl (by kernel_rfl)
  · by_cases hl : l = []
    · subst hl
      obtain ⟨ao', cap', he, _⟩ := hT
      exact ⟨ao', cap', he, fun h => absurd rfl h⟩
    · refine hT.keep mf.size fun b' off c i hv hb => mf.cell (p := ⟨b', i, none⟩) hb (fun e => ?_)
      have e' : b' = w.heap.size := e
      obtain ⟨ao', cap', he, hc⟩ := hT
      obtain ⟨b2, off2, rfl, hb2, hcell⟩ := hc (by simpa using hl)
      have h0 := hcell 0 (bs (l[0]'(List.length_pos_iff.2 hl))) (by simp [List.getElem?_eq_getElem (List.length_pos_iff.2 hl)])
      rw [hv] at he
      simp only [Value.slice.injEq, Option.some.injEq, Addr.mk.injEq] at he
      obtain ⟨⟨hbb, _, _⟩, _⟩ := he
      rw [← hbb, e', Holds.cell hN1] at h0
      have hx := HL.out _ (List.getElem_mem (List.length_pos_iff.2 hl))
      have : off2 = 0 ∨ off2 = 1 ∨ off2 = 2 ∨ off2 = 3 ∨ off2 = 4 ∨ 5 ≤ off2 := by omega
      rcases this with rfl | rfl | rfl | rfl | rfl | h5
      · simp at h0
      · simp at h0
      · simp at h0
      · simp at h0
        exact hx (bs_inj (h0.symm.trans rfl))
      · simp at h0
      · rw [Nat.add_zero, List.getElem?_toArray, List.getElem?_eq_none (by simpa using h5)] at h0
        cases h0
  · exact hB.trans (mf.below hB.size (fun i hi => by omega))

theorem kindAt_of {L : List Ent} {n : Nat} {e : Ent} (he : L[n]? = some e) : kindAt L (n : Int) = (e.sh.kind : Int) := by
  have h : at_ L (n : Int) = some e := by
    unfold at_
    rw [if_pos (by omega)]
    simpa using he
  simp [kindAt, h]
theorem sizeAt_some {L : List Ent} {n : Nat} {e : Ent} (he : L[n]? = some e) : sizeAt L (n : Int) = (e.size : Int) := by
  have h : at_ L (n : Int) = some e := by
    unfold at_
    rw [if_pos (by omega)]
    simpa using he
  simp [sizeAt, h]
theorem kindAt_none (L : List Ent) : kindAt L (-1) = 0 := by simp [kindAt, at_no (L := L) (i := -1) (.inl (by omega))]
theorem sizeAt_none (L : List Ent) : sizeAt L (-1) = 0 := by simp [sizeAt, at_no (L := L) (i := -1) (.inl (by omega))]

def argsI (e : Ent) : List Int := e.sh.args.map fun (u : Nat) => (u : Int)
theorem argsI_len (e : Ent) : (argsI e).length = e.sh.args.length := by simp [argsI]

/-- View of a term, its arguments cell for cell. -/
theorem view_cells {B A : Nat} {L : List Ent} {F : Nat → Prop} {w : World} (ha : ArenaAt B A L F w) {n : Nat} {e : Ent} (he : L[n]? = some e) :
    Calls Tryz.prog 28 #[.pointer (some ⟨A, 0, none⟩), .int .i64 n] w fun r w' => ∃ g, r = .returned (.tuple #[.agg #[.int .i64 e.sh.kind, .int .i64 e.sh.a, .int .i64 e.sh.b, .string e.sh.s, .slice (some ⟨g, 0, none⟩) (argsI e).length (argsI e).length], .bool true]) ∧
      (argsI e ≠ [] → g < w'.heap.size ∧ ∀ (j : Nat) (i : Int), (argsI e)[j]? = some i → w'.cell? ⟨g, 0 + j, none⟩ = some (.int .i64 i)) ∧ Below w.heap.size w w' :=
  (View_some ha he).mono fun r w' ⟨g, h1, h2, h3⟩ => by
    refine ⟨g, by rw [argsI_len]; exact h1, fun hne => ?_, h3⟩
    have hne' : e.sh.args ≠ [] := fun h => hne (by simp [argsI, h])
    obtain ⟨x, hx⟩ : ∃ x, e.sh.args[0]? = some x := ⟨_, List.getElem?_eq_getElem (List.length_pos_iff.2 hne')⟩
    have h0 := owns_cell h2 hx
    refine ⟨World.block_lt_of_cell? w' _ h0.1, fun j i hj => ?_⟩
    simp only [argsI, List.getElem?_map, Option.map_eq_some_iff] at hj
    obtain ⟨u, hu, rfl⟩ := hj
    rw [Nat.zero_add]
    exact (owns_cell h2 hu).1

/-- The document's View of a term's text. -/
theorem refView_cells {L : List Ent} (hG : Good L) {n : Nat} {e : Ent} (he : L[n]? = some e) (w : World) :
    Calls Tryz.prog 41 #[.string (bs (enc L n))] w fun r w' => ∃ ay cy, r = .returned (.agg #[.int .i64 e.sh.kind, .int .i64 e.sh.a, .int .i64 e.sh.b, .string e.sh.s, .slice ay (argsI e).length cy]) ∧
      (argsI e ≠ [] → ∃ b off, ay = some ⟨b, off, none⟩ ∧ b < w'.heap.size ∧ ∀ (j : Nat) (t : List UInt8), (e.sh.args.map (enc L))[j]? = some t → w'.cell? ⟨b, off + j, none⟩ = some (.string (bs t))) ∧ Below w.heap.size w w' := by
  have hlen : (enc L n).length ≤ 1000000 := by
    rw [enc_length hG n e he]
    have := hG.wf.size e (List.mem_of_getElem? he)
    omega
  have hargs : ∀ x ∈ (nodeOf (enc L n)).args, x ≠ [] := fun x hx => by
    rw [nodeOf_enc hG he] at hx
    obtain ⟨u, hu, rfl⟩ := List.mem_map.1 hx
    exact enc_ne hG (Nat.lt_trans ((hG.wf.ok n e he).args u hu) (List.getElem?_eq_some_iff.1 he).1)
  refine (refView_any (enc L n) hlen hargs w).mono fun r w' ⟨v, h1, h2, h3⟩ => ?_
  rw [nodeOf_enc hG he] at h1 h2
  obtain ⟨ay, cy, rfl, hc⟩ := h2
  refine ⟨ay, cy, by rw [h1, rnodeV]; simp only [nodeSh, bs_list, List.length_map, argsI_len], fun hne => ?_, h3⟩
  obtain ⟨b, off, rfl, hb, hcell⟩ := hc (by intro h; apply hne; simpa [nodeSh, argsI] using h)
  exact ⟨b, off, rfl, hb, fun j t hj => hcell j (bs t) (by simp only [nodeSh]; rw [List.getElem?_map, hj]; rfl)⟩
end Go.Proofs.YtkmhdepohcncaaaGreatDoor

namespace Go.Proofs.YtkmhdepohcncaaaGreatDoor
open Go.RowKit

theorem view_flag {B A : Nat} {L : List Ent} {F : Nat → Prop} {w : World} (ha : ArenaAt B A L F w) (t : Int) :
    Calls Tryz.prog 28 #[.pointer (some ⟨A, 0, none⟩), .int .i64 t] w fun r w' => ∃ (k a b : Int) (s : ByteArray) (ao : Option Addr) (n c : Nat), r = .returned (.tuple #[.agg #[.int .i64 k, .int .i64 a, .int .i64 b, .string s, .slice ao n c], .bool (decide (0 ≤ t ∧ t < (L.length : Int)))]) ∧ Below w.heap.size w w' := by
  by_cases h : 0 ≤ t ∧ t < (L.length : Int)
  · obtain ⟨n, rfl⟩ : ∃ n : Nat, t = n := ⟨t.toNat, by omega⟩
    have he : L[n]? = some (L[n]'(by omega)) := List.getElem?_eq_getElem (by omega)
    rw [decide_eq_true h]
    exact (view_cells ha he).mono fun r w' ⟨g, h1, _, h3⟩ => ⟨_, _, _, _, _, _, _, h1, h3⟩
  · rw [decide_eq_false h]
    exact (View_no ha t (by omega)).mono fun r w' ⟨h1, h3⟩ => ⟨_, _, _, _, _, _, _, h1, h3⟩

theorem below_go {w a b : World} (h : Below w.heap.size w a) (k : Below a.heap.size a b) : Below w.heap.size w b := h.trans (k.mono h.size)
theorem below_made {w a : World} (h : Below w.heap.size w a) (o : Obj) : Below w.heap.size w (a.alloc o) := h.alloc h.size o
end Go.Proofs.YtkmhdepohcncaaaGreatDoor
