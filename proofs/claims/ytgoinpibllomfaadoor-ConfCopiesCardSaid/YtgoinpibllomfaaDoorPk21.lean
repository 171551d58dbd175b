/- Part 21 of what the statement wants. -/
import Derived.Deep.RegionHeld3
import Derived.Test.YtgoinpibllomfaaDoorPk20
namespace Go.Proofs.YtgoinpibllomfaaDoor
open Go.RowKit

/-- A whole store into the last block but one. -/
theorem alloc2_setRow (w : World) (Z R : Array Value) (t : TypeId) (o : Obj) {N : Nat} (hN : N = w.heap.size) : ((w.alloc (.cells Z t)).alloc o).setRow N R = (w.alloc (.cells R t)).alloc o := by
  subst hN
  have e : (((w.heap.push (.cells Z t)).push o).modify w.heap.size fun
      | .cells _ elem frozen => .cells R elem frozen
      | o => o) = (w.heap.push (.cells R t)).push o := by
    apply Array.ext_getElem?
    intro i
    rw [Array.getElem?_modify]
    by_cases h : w.heap.size = i
    · subst h
      have e1 : ∀ C : Array Value, ((w.heap.push (.cells C t)).push o)[w.heap.size]? = some (.cells C t) := fun C => by
        rw [Array.getElem?_push, Array.size_push, if_neg (by omega), Array.getElem?_push, if_pos rfl]
      rw [if_pos rfl, e1, e1]
      rfl
    · simp only [Array.getElem?_push, Array.size_push]
      rw [if_neg h, if_neg (fun e : i = w.heap.size => h e.symm), if_neg (fun e : i = w.heap.size => h e.symm)]
  exact congrArg (fun h => ({ w with heap := h } : World)) e
theorem first2_row (w : World) (Z : Array Value) (t : TypeId) (o : Obj) {N : Nat} (hN : N = w.heap.size) : ((w.alloc (.cells Z t)).alloc o).heap[N]? = some (.cells Z t (0, 0)) := by
  subst hN
  exact (((Below.refl _ (w.alloc (.cells Z t))).alloc (Nat.le_refl _) o).block w.heap.size (by simp only [World.size_alloc]; omega)).trans (heap_alloc_new w _)
theorem last2_row (w : World) (Z : Array Value) (t : TypeId) (o : Obj) {N : Nat} (hN : N = w.heap.size + 1) : ((w.alloc o).alloc (.cells Z t)).heap[N]? = some (.cells Z t (0, 0)) := new_row _ Z t (by rw [World.size_alloc]; exact hN)
theorem wpList_store_new2 {P : Program} {ops : Array Oper} {rest : List Oper} {o : Oper} {a : Act} {w : World} {Q : Exit → Act → World → Prop} (hgd : o.guard = none) (ty : TypeId) (x y : Operand) (ho : o.op = .store ty x y)
    (N : Nat) (Z R : Array Value) (t : TypeId) (o2 : Obj) (hx : a.eval x = .pointer (some ⟨N, 0, none⟩)) (hy : a.eval y = .agg R) (hN : N = w.heap.size) (hi : (P.info? ty).map (·.size) = some R.size)
    (hold : Z.size = R.size) (h1 : R.all (·.oneCell') = true) (h : wpList P ops Q rest (a.put o.dst undef) ((w.alloc (.cells R t)).alloc o2)) : wpList P ops Q (o :: rest) a ((w.alloc (.cells Z t)).alloc o2) :=
  wpList_store_row hgd ty x y ho N R hx hy t Z (first2_row w Z t o2 hN) hi hold h1 (by rw [alloc2_setRow w Z R t o2 hN]; exact h)
theorem cell_heap {w : World} {b : Nat} {C : Array Value} {t : TypeId} (h : w.heap[b]? = some (.cells C t (0, 0))) (j : Nat) : w.cell? ⟨b, j, none⟩ = C[j]? := by
  have H : Holds w b t C := h
  exact H.cell j
/-- A guarded load of a whole row, where it is wanted. -/
theorem wpList_load_row_on {P : Program} {ops : Array Oper} {rest : List Oper} {o : Oper} {a : Act} {w : World} {Q : Exit → Act → World → Prop} (hw : Region.wanted o (yielded ops a.tmps) = true) (ty : TypeId) (x : Operand) (ho : o.op = .load ty x)
    (g : Nat) (hx : a.eval x = .pointer (some ⟨g, 0, none⟩)) (t : TypeId) (cs : Array Value) (fr : Nat × Nat) (d : TypeDesc) (hg : w.heap[g]? = some (.cells cs t fr))
    (hu : P.underlying ty = some d) (hd : (match d with | .struct _ | .array _ _ => true | _ => false) = true) (hi : (P.info? ty).map (·.size) = some cs.size)
    (h : wpList P ops Q rest (a.put o.dst (.agg cs)) w) : wpList P ops Q (o :: rest) a w := by
  simp only [wpList, hw]
  exact Or.inl (wp_load_row ty x ho g hx t cs fr d hg hu hd hi h)
theorem CfV.row_size (c : CfV) : c.row.size = 23 := rfl
theorem CfV.row_one (c : CfV) : c.row.all (·.oneCell') = true := by simp [CfV.row, Value.oneCell']

set_option maxHeartbeats 4000000 in
set_option maxRecDepth 100000 in
theorem awake25_any {w : World} (hT : Tab15 w) : Calls Tryd.prog 19 #[] w fun e w' => e = .returned (.bool true) ∧ Below w.heap.size w w' := by
  have HS : Hid (Calls Tryd.prog 25 #[.bool true, .int .i64 1] w fun e w' => ∃ c, e = .returned (.agg c.row) ∧ CfAt w' c (plainD true) ∧ PlainV true 1 c ∧ Below w.heap.size w w') := (cfPlain_srv hT 1).mono fun _ _ ⟨c, h1, h2, h3, _, h5⟩ => ⟨c, h1, h2, h3, h5⟩
  have HC : Hid (∀ W, Below w.heap.size w W → Calls Tryd.prog 25 #[.bool false, .int .i64 1] W fun e w' => ∃ c, e = .returned (.agg c.row) ∧ CfAt w' c (plainD false) ∧ PlainV false 1 c ∧ Below W.heap.size W w') := fun W hb => (cfPlain_cli (hT.below hb) 1).mono fun _ _ ⟨c, h1, h2, h3, _, h5⟩ => ⟨c, h1, h2, h3, h5⟩
  have HK : Hid (∀ (W : World) (b : Bool) (c : CfV) (R : Array Value), R = c.row → Below w.heap.size w W → CfAt W c (plainD b) → PlainV b 1 c → Calls Tryd.prog 27 #[.agg R] W fun e w' => e = .returned .nilIface ∧ Below W.heap.size W w') := fun W b c R hR hb h hv => by
    have ho : confO c (plainD b) = none := by
      cases b with
      | true => rw [confO_srv hv]; rfl
      | false => rw [confO_cli hv]; rfl
    have := cfCheck_any (hT.below hb) h (plain_sized25 b)
    rw [ho] at this
    rw [hR]
    exact this.mono fun e w' ⟨v, h1, h2, h3⟩ => ⟨by rw [h1, show v = .nilIface from h2], h3⟩
  have HZ : Hid (∀ W, Below w.heap.size w W → Calls Tryd.prog 27 #[.agg #[.bool false, .string ⟨#[]⟩, .string ⟨#[]⟩, .slice none 0 0, .slice none 0 0, .slice none 0 0, .slice none 0 0, .slice none 0 0, .slice none 0 0, .slice none 0 0, .slice none 0 0, .slice none 0 0, .int .i64 0, .slice none 0 0, .int .i64 0, .int .i64 0, .string ⟨#[]⟩, .slice none 0 0, .bool false, .bool false, .int .u32 0, .int .u32 0, .int .u32 0]] W fun e w' => ∃ t u, e = .returned (.iface t u) ∧ Below W.heap.size W w') := fun W hb => by
    have := cfCheck_any (hT.below hb) (zero_at25 W) zero_sized25
    rw [zero_wrong25] at this
    exact this.mono fun e w' ⟨v, h1, ⟨t, u, h2, _⟩, h3⟩ => ⟨t, u, by rw [h1, h2], h3⟩
  clear hT
  go_enter Tryd.func19, Tryd.ntmps19
  go_wp2_with (first
    | (go_at_call 25; (with_reducible refine HS.out.mono ?_); rintro e w1 ⟨c1, rfl, h1, v1, b1⟩; have H1 := Lib.hid h1; have V1 := Lib.hid v1; have B1 := Lib.hid b1; clear h1 v1 b1; obtain ⟨R1, hR1⟩ : ∃ R, Hid (R = c1.row) := ⟨_, Lib.hid rfl⟩; rw [← hR1.out])
    | (go_at_call 25; (with_reducible refine (HC.out _ B1.out).mono ?_); rintro e w2 ⟨c2, rfl, h2, v2, b2⟩; have H2 := Lib.hid h2; have V2 := Lib.hid v2; have B2 := Lib.hid (B1.out.trans (b2.mono B1.out.size)); have H1b := Lib.hid (H1.out.below b2); clear h2 v2 b2; obtain ⟨R2, hR2⟩ : ∃ R, Hid (R = c2.row) := ⟨_, Lib.hid rfl⟩; rw [← hR2.out])
    | (refine wpList_store_new2 rfl 51 _ _ rfl w2.heap.size #[.bool false, .string ⟨#[]⟩, .string ⟨#[]⟩, .slice none 0 0, .slice none 0 0, .slice none 0 0, .slice none 0 0, .slice none 0 0, .slice none 0 0, .slice none 0 0, .slice none 0 0, .slice none 0 0, .int .i64 0, .slice none 0 0, .int .i64 0, .int .i64 0, .string ⟨#[]⟩, .slice none 0 0, .bool false, .bool false, .int .u32 0, .int .u32 0, .int .u32 0] R1 51 _ rfl rfl rfl (by rw [hR1.out]; exact sizeZ) (by rw [hR1.out]; rfl) (by rw [hR1.out]; exact c1.row_one) ?_)
    | (refine wpList_store_new rfl 51 _ _ rfl (w2.heap.size + 1) #[.bool false, .string ⟨#[]⟩, .string ⟨#[]⟩, .slice none 0 0, .slice none 0 0, .slice none 0 0, .slice none 0 0, .slice none 0 0, .slice none 0 0, .slice none 0 0, .slice none 0 0, .slice none 0 0, .int .i64 0, .slice none 0 0, .int .i64 0, .int .i64 0, .string ⟨#[]⟩, .slice none 0 0, .bool false, .bool false, .int .u32 0, .int .u32 0, .int .u32 0] R2 51 rfl rfl (by simp only [World.size_alloc]) (by rw [hR2.out]; exact sizeZ) (by rw [hR2.out]; rfl) (by rw [hR2.out]; exact c2.row_one) ?_
       have HR := Lib.hid (And.intro (first2_row w2 R1 51 (.cells R2 51) rfl) (last2_row w2 R2 51 (.cells R1 51) rfl))
       have DW := Lib.hid (((Below.refl _ w2).alloc (Nat.le_refl _) (.cells R1 51)).alloc (by simp only [World.size_alloc]; omega) (.cells R2 51))
       obtain ⟨W, hW⟩ : ∃ W, Hid (W = (w2.alloc (.cells R1 51)).alloc (.cells R2 51)) := ⟨_, Lib.hid rfl⟩
       rw [← hW.out] at HR DW ⊢
       clear hW
       have k0 : W.cell? ⟨w2.heap.size, 0, none⟩ = some (.bool true) := (cell_heap HR.out.1 0).trans (by rw [hR1.out, ← (show c1.sv = true from V1.out.sv)]; rfl)
       have k1 : W.cell? ⟨w2.heap.size + 1, 0, none⟩ = some (.bool false) := (cell_heap HR.out.2 0).trans (by rw [hR2.out, ← (show c2.sv = false from V2.out.sv)]; rfl)
       have k2 : W.cell? ⟨w2.heap.size, 12, none⟩ = some (.int .i64 1) := (cell_heap HR.out.1 12).trans (by rw [hR1.out, ← (show c1.ow = 1 from V1.out.ow)]; rfl)
       have k3 : W.cell? ⟨w2.heap.size + 1, 15, none⟩ = some (.int .i64 1) := (cell_heap HR.out.2 15).trans (by rw [hR2.out, ← (show c2.pe = 1 from V2.out.pe)]; rfl)
       have BW := Lib.hid (B2.out.trans (DW.out.mono B2.out.size)))
    | (refine wpList_load_row_on (by rfl) 51 _ rfl w2.heap.size rfl 51 R1 (0, 0) _ HR.out.1 Tryd.underlying51 rfl (by rw [hR1.out]; exact sizeZ) ?_)
    | (refine wpList_load_row_on (by rfl) 51 _ rfl (w2.heap.size + 1) rfl 51 R2 (0, 0) _ HR2.out Tryd.underlying51 rfl (by rw [hR2.out]; exact sizeZ) ?_)
    | (go_at_call 27; (with_reducible refine (HK.out _ true c1 _ hR1.out BW.out (H1b.out.below DW.out) V1.out).mono ?_); rintro e w3 ⟨rfl, b3⟩; have HR2 := Lib.hid ((b3.block _ (Holds.lt HR.out.2)).trans HR.out.2); have D3 := Lib.hid (DW.out.trans (b3.mono DW.out.size)); have B3 := Lib.hid (BW.out.trans (b3.mono BW.out.size)); clear b3 k0 k1 k2 k3)
    | (go_at_call 27; (with_reducible refine (HK.out _ false c2 _ hR2.out B3.out (H2.out.below D3.out) V2.out).mono ?_); rintro e w4 ⟨rfl, b4⟩; have B4 := Lib.hid (B3.out.trans (b4.mono B3.out.size)); clear b4)
    | (go_at_call 27; (with_reducible refine (HZ.out _ B4.out).mono ?_); rintro e w5 ⟨t, u, rfl, b5⟩; have B5 := Lib.hid (B4.out.trans (b5.mono B4.out.size)); clear b5)
    | fail)
  go_ret
  exact ⟨rfl, B5.out⟩
end Go.Proofs.YtgoinpibllomfaaDoor
