/- Part 26 of what the statement wants. -/
import Derived.Test.YtgoinpibllomfaaDoorPk23
import Derived.Test.YtgoinpibllomfaaDoorPk24
import Derived.Test.YtgoinpibllomfaaDoorPk25
namespace Go.Proofs.YtgoinpibllomfaaDoor
open Go.RowKit

theorem yields_row25 {P : Program} {ops : Array Oper} {S : World → Prop} {o : Oper} {a : Act} (hw : Region.wanted o (yielded ops a.tmps) = true) (ty : TypeId) (x : Operand) (ho : o.op = .load ty x)
    (g : Nat) (hx : a.eval x = .pointer (some ⟨g, 0, none⟩)) (t : TypeId) (cs : Array Value) (fr : Nat × Nat) (d : TypeDesc) (hS : ∀ w, S w → w.heap[g]? = some (.cells cs t fr))
    (hu : P.underlying ty = some d) (hd : (match d with | .struct _ | .array _ _ => true | _ => false) = true) (hi : (P.info? ty).map (·.size) = some cs.size) : YieldsIf P ops S o (.agg cs) a :=
  .inl ⟨hw, fun w h => by
    unfold execOp
    simp only [ho, hx, Instr.loadAt, Instr.sureAddr, Sem.run_bind, Sem.run_pure, Result.andThen_ok, run_loadVar_row w g t ty cs fr d (hS w h) hu hd hi]⟩
theorem sizeConfRow {c : CfV} : (Tryd.prog.info? 51).map (·.size) = some c.row.size := by rw [CfV.row_size]; exact sizeZ
/-- What is said, its lists spelled. -/
theorem Inits25.spelled {w : World} {C : ByteArray} {p : Nat → List (List UInt8)} {p1 p2 p3 p4 p5 : Bool} {e : Ending} {w' : World} (h : Inits25 w C p p1 p2 p3 p4 p5 e w') : ∃ q : Nat → Option Addr × Nat × Nat, e = .returned (.agg #[.string C, .slice (q 0).1 (q 0).2.1 (q 0).2.2, .slice (q 1).1 (q 1).2.1 (q 1).2.2, .slice (q 2).1 (q 2).2.1 (q 2).2.2, .slice (q 3).1 (q 3).2.1 (q 3).2.2, .slice (q 4).1 (q 4).2.1 (q 4).2.2, .slice (q 5).1 (q 5).2.1 (q 5).2.2, .slice (q 6).1 (q 6).2.1 (q 6).2.2, .slice (q 7).1 (q 7).2.1 (q 7).2.2, .slice none 0 0, .slice none 0 0, .bool p1, .bool p2, .bool p3, .bool p4, .bool p5]) ∧ (∀ k < 8, TextsAt w' (.slice (q k).1 (q k).2.1 (q k).2.2) ((p k).map bs)) ∧ Below w.heap.size w w' := by
  obtain ⟨u, rfl, hu, hb⟩ := h
  have hq : ∀ k, ∃ x : Option Addr × Nat × Nat, k < 8 → u k = .slice x.1 x.2.1 x.2.2 := fun k => by
    by_cases hk : k < 8
    · obtain ⟨a, c, e, _⟩ := hu k hk
      exact ⟨(a, _, c), fun _ => e⟩
    · exact ⟨(none, 0, 0), fun h => absurd h hk⟩
  have hq2 := Classical.axiomOfChoice hq
  obtain ⟨q, hq⟩ := hq2
  refine ⟨q, ?_, fun k hk => by rw [← hq k hk]; exact hu k hk, hb⟩
  unfold initV
  rw [hq 0 (by omega), hq 1 (by omega), hq 2 (by omega), hq 3 (by omega), hq 4 (by omega), hq 5 (by omega), hq 6 (by omega), hq 7 (by omega)]
set_option maxHeartbeats 8000000 in
set_option maxRecDepth 100000 in
theorem ConfInits_any {w : World} (hT : Tab15 w) {c : CfV} {d : CfL} (h : CfAt w c d) (h8 : Eight w c.u d.p) (hm : CfBig d) (s n : Int) (hs : s < 9223372036854775808) (hn : n < 9223372036854775808) :
    Calls Tryd.prog 4 #[.agg c.row, .int .i64 s, .int .i64 n] w fun e w' => e = .returned (.bool true) ∧ Below w.heap.size w w' := by
  obtain ⟨W0, hW0⟩ : ∃ W0, Hid (W0 = w.alloc (.cells c.row 51)) := ⟨_, Lib.hid rfl⟩
  have b0 : Below w.heap.size w W0 := by rw [hW0.out]; exact (Below.refl _ _).alloc (Nat.le_refl _) _
  have hX : Holds W0 w.heap.size 51 c.row := by rw [hW0.out]; exact Holds.new w _ _
  have HBx : Hid (∀ W, Below W0.heap.size W0 W → Holds W w.heap.size 51 c.row) := fun W hb => (hb.block _ hX.lt).trans hX
  have HAw : Hid (∀ W, Below W0.heap.size W0 W → Calls Tryd.prog 19 #[] W fun e w' => e = .returned (.bool true) ∧ Below W.heap.size W w') := fun W hb => awake25_any ((hT.below b0).below hb)
  have HFw := few25_any (h.below b0) (h8.below b0) hm
  have HB0 := Lib.hid b0
  have hXl := Lib.hid hX
  by_cases hf : Few25 d
  · have HF : Hid (Calls Tryd.prog 18 #[.agg c.row] W0 fun e w' => e = .returned (.bool true) ∧ Below W0.heap.size W0 w') := HFw.mono fun e w' ⟨z, h1, h2, h3⟩ => ⟨by rw [h1, h2.2 hf], h3⟩
    have hl : ∀ k < 8, (d.p k).length ≤ 1000 := fun k hk => by have := (hf.p k hk).1; omega
    have HI : Hid (∀ W, Below W0.heap.size W0 W → Calls Tryd.prog 21 #[.agg c.row, .int .i64 s, .int .i64 n] W fun e w' => ∃ q : Nat → Option Addr × Nat × Nat, e = .returned (.agg #[.string (bs (cookieP s n)), .slice (q 0).1 (q 0).2.1 (q 0).2.2, .slice (q 1).1 (q 1).2.1 (q 1).2.2, .slice (q 2).1 (q 2).2.1 (q 2).2.2, .slice (q 3).1 (q 3).2.1 (q 3).2.2, .slice (q 4).1 (q 4).2.1 (q 4).2.2, .slice (q 5).1 (q 5).2.1 (q 5).2.2, .slice (q 6).1 (q 6).2.1 (q 6).2.2, .slice (q 7).1 (q 7).2.1 (q 7).2.2, .slice none 0 0, .slice none 0 0, .bool (!c.sv && (n == 0) && c.ex), .bool false, .bool (!c.sv && (n == 0)), .bool (c.sv && (n == 0)), .bool (!c.sv && c.gu)]) ∧ (∀ k < 8, TextsAt w' (.slice (q k).1 (q k).2.1 (q k).2.2) ((d.p k).map bs)) ∧ Below W.heap.size W w') := fun W hb => (cfInit_any ((h.below b0).below hb) hl s n hs hn).mono fun e w' hh => hh.spelled
    have HJ : Hid (∀ W, Calls Tryd.prog 22 #[.agg c.row, .int .i64 s, .int .i64 n] W fun e w' => e = .returned (.agg #[.string (bs (cookieP s n)), .slice c.a0 c.n0 c.c0, .slice c.a1 c.n1 c.c1, .slice c.a2 c.n2 c.c2, .slice c.a3 c.n3 c.c3, .slice c.a4 c.n4 c.c4, .slice c.a5 c.n5 c.c5, .slice c.a6 c.n6 c.c6, .slice c.a7 c.n7 c.c7, .slice none 0 0, .slice none 0 0, .bool (!c.sv && (n == 0) && c.ex), .bool false, .bool (!c.sv && (n == 0)), .bool (c.sv && (n == 0)), .bool (!c.sv && c.gu)]) ∧ Below W.heap.size W w') := fun W => r25Init_raw (c := c) s n hs hn c.sv c.ex c.gu (n == 0) rfl
    have HSm : Hid (∀ (q : Nat → Option Addr × Nat × Nat) (W : World), Below W0.heap.size W0 W → (∀ k < 8, TextsAt W (.slice (q k).1 (q k).2.1 (q k).2.2) ((d.p k).map bs)) → Calls Tryd.prog 20 #[.agg #[.string (bs (cookieP s n)), .slice (q 0).1 (q 0).2.1 (q 0).2.2, .slice (q 1).1 (q 1).2.1 (q 1).2.2, .slice (q 2).1 (q 2).2.1 (q 2).2.2, .slice (q 3).1 (q 3).2.1 (q 3).2.2, .slice (q 4).1 (q 4).2.1 (q 4).2.2, .slice (q 5).1 (q 5).2.1 (q 5).2.2, .slice (q 6).1 (q 6).2.1 (q 6).2.2, .slice (q 7).1 (q 7).2.1 (q 7).2.2, .slice none 0 0, .slice none 0 0, .bool (!c.sv && (n == 0) && c.ex), .bool false, .bool (!c.sv && (n == 0)), .bool (c.sv && (n == 0)), .bool (!c.sv && c.gu)], .agg #[.string (bs (cookieP s n)), .slice c.a0 c.n0 c.c0, .slice c.a1 c.n1 c.c1, .slice c.a2 c.n2 c.c2, .slice c.a3 c.n3 c.c3, .slice c.a4 c.n4 c.c4, .slice c.a5 c.n5 c.c5, .slice c.a6 c.n6 c.c6, .slice c.a7 c.n7 c.c7, .slice none 0 0, .slice none 0 0, .bool (!c.sv && (n == 0) && c.ex), .bool false, .bool (!c.sv && (n == 0)), .bool (c.sv && (n == 0)), .bool (!c.sv && c.gu)]] W fun e w' => e = .returned (.bool true) ∧ Below W.heap.size W w') := fun q W hb hq => by
      have hP : ∀ W', Below W.heap.size W W' → Calls Tryd.prog 38 #[.agg #[.slice (q 0).1 (q 0).2.1 (q 0).2.2, .slice (q 1).1 (q 1).2.1 (q 1).2.2, .slice (q 2).1 (q 2).2.1 (q 2).2.2, .slice (q 3).1 (q 3).2.1 (q 3).2.2, .slice (q 4).1 (q 4).2.1 (q 4).2.2, .slice (q 5).1 (q 5).2.1 (q 5).2.2, .slice (q 6).1 (q 6).2.1 (q 6).2.2, .slice (q 7).1 (q 7).2.1 (q 7).2.2], .agg #[.slice c.a0 c.n0 c.c0, .slice c.a1 c.n1 c.c1, .slice c.a2 c.n2 c.c2, .slice c.a3 c.n3 c.c3, .slice c.a4 c.n4 c.c4, .slice c.a5 c.n5 c.c5, .slice c.a6 c.n6 c.c6, .slice c.a7 c.n7 c.c7]] W' fun e w' => e = .returned (.bool true) ∧ Below W'.heap.size W' w' := fun W' hb' =>
        (same15_any (u := fun k => .slice (q k).1 (q k).2.1 (q k).2.2) (v := c.u) (p := d.p) (q := d.p) (fun k hk => (hq k hk).below hb') (fun k hk => (((h.below b0).below hb).below hb').pf k hk) (fun k hk => by have := hl k hk; unfold maxLen; omega)).mono fun e w' ⟨z, h1, h2, h3⟩ => ⟨by rw [h1, h2.2 (fun _ _ => rfl)], h3⟩
      have hG : ∀ W', Below W.heap.size W W' → Calls Tryd.prog 15 #[.slice none 0 0, .slice none 0 0] W' fun e w' => e = .returned (.bool true) ∧ Below W'.heap.size W' w' := fun W' _ =>
        (same_any (l := []) (l' := []) ⟨none, 0, rfl, fun h => absurd rfl h⟩ ⟨none, 0, rfl, fun h => absurd rfl h⟩ (by simp)).mono fun e w' ⟨h1, h2⟩ => ⟨by rw [h1, decide_eq_true rfl], h2⟩
      refine (same16_raw true true true true (by simp) hP hG hG).mono fun e w' ⟨h1, h2⟩ => ⟨by rw [h1]; simp, h2⟩
    clear hT h h8 hm b0 hX HFw hs hn hf hl
    go_enter Tryd.func4, Tryd.ntmps4
    go_upto_region 3 with (first
      | (refine wpList_load_row rfl 51 _ rfl w.heap.size rfl 51 c.row (0, 0) _ (by rw [← hW0.out]; exact hXl.out) Tryd.underlying51 rfl (by exact sizeConfRow) ?_)
      | (go_at_call 18; rw [← hW0.out]; (with_reducible refine HF.out.mono ?_); rintro e w1 ⟨rfl, b1⟩; have B1 := Lib.hid (b1.trans (Below.refl _ _).drew)))
    clear b1
    refine wp_region_held_drew (S := fun W => Holds W w.heap.size 51 c.row) (by kernel_rfl) ?_ (fun hHeld => ?_)
    · exact HBx.out _ B1.out
    refine wpAnyH_ready (rs := [0]) (by kernel_rfl) (by simp) ?_
    refine AllReadyH.cons (o := { dst := some 11, op := Op.call { callee := Callee.value (Operand.func 19), args := #[], argTypes := #[] }, type := 4, pos := "law.go:83", after := #[], guard := none }) rfl (fun K hK => ?_) AllReadyH.nil
    go_simp
    go_at_call 19
    with_reducible refine (HAw.out _ B1.out).mono ?_
    rintro e u1 ⟨rfl, d1⟩
    have B2 := Lib.hid (B1.out.trans (d1.mono B1.out.size))
    clear d1
    go_wp2_with fail
    refine hK.out _ _ ?_ (fun hHeld => ?_)
    · exact HBx.out _ B2.out
    clear hK K
    try simp only [Act.put, List.setIfInBounds_toArray, List.set_cons_zero, List.set_cons_succ]
    refine wpAnyH_take (i := 1) (oi := { dst := some 12, op := Op.move (Operand.tmp 11), type := 4, pos := "law.go:83", after := #[{ on := 0, ground := Ground.data }, { on := 0, ground := Ground.chain }], guard := none }) (v := ?_) rfl (by kernel_rfl) (by kernel_rfl) (by kernel_rfl) (fun _ _ _ h => h) (Or.inl ⟨by rfl, ?_⟩) (by assumption) ?_
    rotate_left 1
    · (intro w hSw; (try dsimp only at hSw); go_simp; (try with_reducible rfl))
    try simp only [Act.put, List.setIfInBounds_toArray, List.set_cons_zero, List.set_cons_succ]
    refine wpAnyH_take (i := 2) (oi := { dst := some 13, op := Op.load 51 (Operand.tmp 3), type := 51, pos := "law.go:83", after := #[{ on := 1, ground := Ground.guard }], guard := some (1, true) }) (v := .agg c.row) rfl (by kernel_rfl) (by kernel_rfl) (by kernel_rfl) (fun _ _ _ h => h) (yields_row25 (by rfl) 51 _ rfl w.heap.size rfl 51 c.row (0, 0) _ (fun _ h => h) Tryd.underlying51 rfl sizeConfRow) (by assumption) ?_
    try simp only [Act.put, List.setIfInBounds_toArray, List.set_cons_zero, List.set_cons_succ]
    refine wpAnyH_take (i := 3) (oi := { dst := some 14, op := Op.move (Operand.tmp 1), type := 3, pos := "law.go:83", after := #[{ on := 1, ground := Ground.guard }], guard := some (1, true) }) (v := ?_) rfl (by kernel_rfl) (by kernel_rfl) (by kernel_rfl) (fun _ _ _ h => h) (Or.inl ⟨by rfl, ?_⟩) (by assumption) ?_
    rotate_left 1
    · (intro w hSw; (try dsimp only at hSw); go_simp; (try with_reducible rfl))
    try simp only [Act.put, List.setIfInBounds_toArray, List.set_cons_zero, List.set_cons_succ]
    refine wpAnyH_take (i := 4) (oi := { dst := some 15, op := Op.move (Operand.tmp 2), type := 3, pos := "law.go:83", after := #[{ on := 1, ground := Ground.guard }], guard := some (1, true) }) (v := ?_) rfl (by kernel_rfl) (by kernel_rfl) (by kernel_rfl) (fun _ _ _ h => h) (Or.inl ⟨by rfl, ?_⟩) (by assumption) ?_
    rotate_left 1
    · (intro w hSw; (try dsimp only at hSw); go_simp; (try with_reducible rfl))
    try simp only [Act.put, List.setIfInBounds_toArray, List.set_cons_zero, List.set_cons_succ]
    refine wpAnyH_take (i := 6) (oi := { dst := some 17, op := Op.load 51 (Operand.tmp 3), type := 51, pos := "law.go:83", after := #[{ on := 1, ground := Ground.guard }], guard := some (1, true) }) (v := .agg c.row) rfl (by kernel_rfl) (by kernel_rfl) (by kernel_rfl) (fun _ _ _ h => h) (yields_row25 (by rfl) 51 _ rfl w.heap.size rfl 51 c.row (0, 0) _ (fun _ h => h) Tryd.underlying51 rfl sizeConfRow) (by assumption) ?_
    try simp only [Act.put, List.setIfInBounds_toArray, List.set_cons_zero, List.set_cons_succ]
    refine wpAnyH_take (i := 7) (oi := { dst := some 18, op := Op.move (Operand.tmp 1), type := 3, pos := "law.go:83", after := #[{ on := 1, ground := Ground.guard }], guard := some (1, true) }) (v := ?_) rfl (by kernel_rfl) (by kernel_rfl) (by kernel_rfl) (fun _ _ _ h => h) (Or.inl ⟨by rfl, ?_⟩) (by assumption) ?_
    rotate_left 1
    · (intro w hSw; (try dsimp only at hSw); go_simp; (try with_reducible rfl))
    try simp only [Act.put, List.setIfInBounds_toArray, List.set_cons_zero, List.set_cons_succ]
    refine wpAnyH_take (i := 8) (oi := { dst := some 19, op := Op.move (Operand.tmp 2), type := 3, pos := "law.go:83", after := #[{ on := 1, ground := Ground.guard }], guard := some (1, true) }) (v := ?_) rfl (by kernel_rfl) (by kernel_rfl) (by kernel_rfl) (fun _ _ _ h => h) (Or.inl ⟨by rfl, ?_⟩) (by assumption) ?_
    rotate_left 1
    · (intro w hSw; (try dsimp only at hSw); go_simp; (try with_reducible rfl))
    try simp only [Act.put, List.setIfInBounds_toArray, List.set_cons_zero, List.set_cons_succ]
    refine wpAnyH_ready (rs := [5]) (by kernel_rfl) (by simp) ?_
    refine AllReadyH.cons (o := { dst := some 16, op := Op.call { callee := Callee.value (Operand.func 21), args := #[Operand.tmp 13, Operand.tmp 14, Operand.tmp 15], argTypes := #[51, 3, 3] }, type := 56, pos := "law.go:83", after := #[{ on := 2, ground := Ground.data }, { on := 3, ground := Ground.data }, { on := 4, ground := Ground.data }, { on := 1, ground := Ground.chain }, { on := 1, ground := Ground.guard }], guard := some (1, true) }) rfl (fun K hK => ?_) AllReadyH.nil
    go_simp
    go_at_call 21
    with_reducible refine (HI.out _ B2.out).mono ?_
    rintro e u2 ⟨q, rfl, hq, d2⟩
    have B3 := Lib.hid (B2.out.trans (d2.mono B2.out.size))
    have Hq := Lib.hid hq
    clear d2 hq
    go_wp2_with fail
    refine hK.out _ _ ?_ (fun hHeld => ?_)
    · exact HBx.out _ B3.out
    clear hK K
    try simp only [Act.put, List.setIfInBounds_toArray, List.set_cons_zero, List.set_cons_succ]
    refine wpAnyH_ready (rs := [9]) (by kernel_rfl) (by simp) ?_
    refine AllReadyH.cons (o := { dst := some 20, op := Op.call { callee := Callee.value (Operand.func 22), args := #[Operand.tmp 17, Operand.tmp 18, Operand.tmp 19], argTypes := #[51, 3, 3] }, type := 56, pos := "law.go:83", after := #[{ on := 6, ground := Ground.data }, { on := 7, ground := Ground.data }, { on := 8, ground := Ground.data }, { on := 5, ground := Ground.chain }, { on := 1, ground := Ground.guard }], guard := some (1, true) }) rfl (fun K hK => ?_) AllReadyH.nil
    go_simp
    go_at_call 22
    with_reducible refine (HJ.out u2).mono ?_
    rintro e u3 ⟨rfl, d3⟩
    have B4 := Lib.hid (B3.out.trans (d3.mono B3.out.size))
    have HS := Lib.hid (HSm.out q u3 B4.out (fun k hk => (Hq.out k hk).below d3))
    clear d3
    go_wp2_with fail
    refine hK.out _ _ ?_ (fun hHeld => ?_)
    · exact HBx.out _ B4.out
    clear hK K
    try simp only [Act.put, List.setIfInBounds_toArray, List.set_cons_zero, List.set_cons_succ]
    refine wpAnyH_ready (rs := [10]) (by kernel_rfl) (by simp) ?_
    refine AllReadyH.cons (o := { dst := some 21, op := Op.call { callee := Callee.value (Operand.func 20), args := #[Operand.tmp 16, Operand.tmp 20], argTypes := #[56, 56] }, type := 4, pos := "law.go:83", after := #[{ on := 5, ground := Ground.data }, { on := 9, ground := Ground.data }, { on := 9, ground := Ground.chain }, { on := 1, ground := Ground.guard }], guard := some (1, true) }) rfl (fun K hK => ?_) AllReadyH.nil
    go_simp
    go_at_call 20
    with_reducible refine (HS.out).mono ?_
    rintro e u4 ⟨rfl, d4⟩
    have B5 := Lib.hid (B4.out.trans (d4.mono B4.out.size))
    clear d4
    go_wp2_with fail
    refine hK.out _ _ ?_ (fun hHeld => ?_)
    · exact HBx.out _ B5.out
    clear hK K
    try simp only [Act.put, List.setIfInBounds_toArray, List.set_cons_zero, List.set_cons_succ]
    refine wpAnyH_take (i := 11) (oi := { dst := some 22, op := Op.pick (Operand.tmp 12) (Operand.tmp 21) (Operand.const (Value.bool false)), type := 4, pos := "law.go:83", after := #[{ on := 1, ground := Ground.data }, { on := 10, ground := Ground.data }], guard := none }) (v := ?_) rfl (by kernel_rfl) (by kernel_rfl) (by kernel_rfl) (fun _ _ _ h => h) (Or.inl ⟨by rfl, ?_⟩) (by assumption) ?_
    rotate_left 1
    · (intro w hSw; (try dsimp only at hSw); go_simp; (try with_reducible rfl))
    try simp only [Act.put, List.setIfInBounds_toArray, List.set_cons_zero, List.set_cons_succ]
    refine wpAnyH_take (i := 12) (oi := { dst := some 6, op := Op.assign (Operand.tmp 22), type := 4, pos := "law.go:83", after := #[{ on := 11, ground := Ground.data }, { on := 10, ground := Ground.chain }, { on := 0, ground := Ground.phase }, { on := 1, ground := Ground.phase }, { on := 2, ground := Ground.phase }, { on := 3, ground := Ground.phase }, { on := 4, ground := Ground.phase }, { on := 5, ground := Ground.phase }, { on := 6, ground := Ground.phase }, { on := 7, ground := Ground.phase }, { on := 8, ground := Ground.phase }, { on := 9, ground := Ground.phase }, { on := 10, ground := Ground.phase }, { on := 11, ground := Ground.phase }], guard := none }) (v := ?_) rfl (by kernel_rfl) (by kernel_rfl) (by kernel_rfl) (fun _ _ _ h => h) (Or.inl ⟨by rfl, ?_⟩) (by assumption) ?_
    rotate_left 1
    · (intro w hSw; (try dsimp only at hSw); go_simp; (try with_reducible rfl))
    try simp only [Act.put, List.setIfInBounds_toArray, List.set_cons_zero, List.set_cons_succ]
    refine wpAnyH_done (by kernel_rfl) ?_ _
    go_wp2_with fail
    go_ret
    exact ⟨rfl, HB0.out.trans (B5.out.mono HB0.out.size)⟩
  · have HF : Hid (Calls Tryd.prog 18 #[.agg c.row] W0 fun e w' => e = .returned (.bool false) ∧ Below W0.heap.size W0 w') := HFw.mono fun e w' ⟨z, h1, h2, h3⟩ => ⟨by
      rw [h1]
      cases z with
      | false => rfl
      | true => exact absurd (h2.1 rfl) hf, h3⟩
    clear hT h h8 hm b0 hX HFw hs hn hf
    go_enter Tryd.func4, Tryd.ntmps4
    go_wp2_with (first
      | (refine wpList_load_row rfl 51 _ rfl w.heap.size rfl 51 c.row (0, 0) _ (by rw [← hW0.out]; exact hXl.out) Tryd.underlying51 rfl (by exact sizeConfRow) ?_)
      | (go_at_call 18; rw [← hW0.out]; (with_reducible refine HF.out.mono ?_); rintro e w1 ⟨rfl, b1⟩; have B1 := Lib.hid b1)
      | (go_at_call 19; (with_reducible refine (HAw.out _ B1.out).mono ?_); rintro e w2 ⟨rfl, b2⟩))
    go_ret
    exact ⟨rfl, HB0.out.trans ((B1.out.trans (b2.mono B1.out.size)).mono HB0.out.size)⟩
end Go.Proofs.YtgoinpibllomfaaDoor
