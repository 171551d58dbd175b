/- errors.As over the project's chains of faults. -/
import Derived.Test.YtjphlhehhigpjaaDoorFlt2
namespace Go.Proofs.YtjphlhehhigpjaaDoor
open Go.RowKit Go.Extern.Stop Go.Stop Go.Extern

set_option maxRecDepth 100000 in
theorem as_fault {w : World} {v : Value} {path : List ByteArray} {n : Option Int} (hv : ErrAt w v path n) (hne : v ≠ .nilIface) {P a : Nat} {m : Option Addr} (hP : Holds w P 102 #[.pointer m]) (ha : w.cell? ⟨a, 0, none⟩ = some (.pointer (some ⟨P, 0, none⟩))) :
    Calls Tryd.prog 67 #[v, .iface 121 (.pointer (some ⟨P, 0, none⟩)), .agg #[.pointer (some ⟨2, 121, none⟩), .pointer (some ⟨a, 0, none⟩), .int .u64 150], .iface 141 (.agg #[.pointer (some ⟨2, 102, none⟩)])] w fun r w' =>
      (path = [] ∧ r = .returned (.bool false) ∧ Moves (fun k => k = P) w w' ∧ Holds w' P 102 #[.pointer m]) ∨ (∃ b, v = .iface 102 (.pointer (some ⟨b, 0, none⟩)) ∧ r = .returned (.bool true) ∧ Moves (fun k => k = P) w w' ∧ Holds w' P 102 #[.pointer (some ⟨b, 0, none⟩)]) := by
  have h45 := @run_callFunc_extern Tryd.prog 73 _ Extern.ReflectliteType.typeOf Tryd.func73 (by kernel_rfl) (by kernel_rfl) (by kernel_rfl) (by kernel_rfl)
  have h51 := @run_callFunc_extern Tryd.prog 64 _ (fun args => Extern.ReflectliteValue.unpack (args.getD 0 (.tuple #[]))) Tryd.func64 (by kernel_rfl) (by kernel_rfl) (by kernel_rfl) (by kernel_rfl)
  have h57 := @run_callFunc_extern Tryd.prog 74 _ fnVElem Tryd.func74 (by kernel_rfl) (by kernel_rfl) (by kernel_rfl) (by kernel_rfl)
  have h58 := @run_callFunc_extern Tryd.prog 75 _ Extern.ReflectliteValue.set Tryd.func75 (by kernel_rfl) (by kernel_rfl) (by kernel_rfl) (by kernel_rfl)
  have h83 := @run_callFunc_extern Tryd.prog 101 _ (Extern.ReflectliteType.relation "AssignableTo" Extern.ReflectliteType.assignableTo) Tryd.func101 (by kernel_rfl) (by kernel_rfl) (by kernel_rfl) (by kernel_rfl)
  have t24 := rl_typeOf24
  have t37 := rl_typeOf37
  have a1 := rl_asg_nf
  have a2 := rl_asg_ff
  have v37 := rl_valueOf37
  have u1 := no_As24
  have u2 := no_Unwrap24
  have u3 := no_Unwraps24
  have m1 := meth_assign
  have hP0 : Holds (w.alloc (.cells #[.pointer (some ⟨2, 121, none⟩), .pointer (some ⟨a, 0, none⟩), .int .u64 150] 125)) P 102 #[.pointer m] := hP.moves ((Moves.refl nobody _).alloc _) (fun h => h)
  have ha0 : (w.alloc (.cells #[.pointer (some ⟨2, 121, none⟩), .pointer (some ⟨a, 0, none⟩), .int .u64 150] 125)).cell? ⟨a, 0, none⟩ = some (.pointer (some ⟨P, 0, none⟩)) := (((Below.refl w.heap.size w).alloc (Nat.le_refl _) _).cell (p := ⟨a, 0, none⟩) (World.block_lt_of_cell? w _ ha)).trans ha
  have hb0 : Holds (w.alloc (.cells #[.pointer (some ⟨2, 121, none⟩), .pointer (some ⟨a, 0, none⟩), .int .u64 150] 125)) w.heap.size 125 #[.pointer (some ⟨2, 121, none⟩), .pointer (some ⟨a, 0, none⟩), .int .u64 150] := Holds.new w _ _
  have hm0 : Moves (fun k => k = P) w (w.alloc (.cells #[.pointer (some ⟨2, 121, none⟩), .pointer (some ⟨a, 0, none⟩), .int .u64 150] 125)) := (Moves.refl _ _).alloc _
  have HPs := Lib.hid hP0
  have HAs := Lib.hid ha0
  have HBs := Lib.hid hb0
  have HMs := Lib.hid hm0
  clear hP ha hP0 ha0 hb0 hm0
  cases hv with
  | none => exact absurd rfl hne
  | num e =>
    clear hne
    go_enter Tryd.func67, Tryd.ntmps67
    go_wp2_with fail
    generalize w.alloc (.cells #[.pointer (some ⟨2, 121, none⟩), .pointer (some ⟨a, 0, none⟩), .int .u64 150] 125) = W0 at *
    generalize w.heap.size = N0 at *
    refine wp_loop_rounds 1 ?_
    rw [rounds_succ]
    go_wp2_with fail
    go_ret
    exact .inl ⟨trivial, rfl, HMs.out, HPs.out⟩
  | @fault b x v1 path1 n1 k1 k2 k3 k4 =>
    clear hne k1 k2 k3 k4
    go_enter Tryd.func67, Tryd.ntmps67
    go_wp2_with fail
    generalize w.alloc (.cells #[.pointer (some ⟨2, 121, none⟩), .pointer (some ⟨a, 0, none⟩), .int .u64 150] 125) = W0 at *
    generalize w.heap.size = N0 at *
    have b0 := HBs.out.cell 0
    have b1 := HBs.out.cell 1
    have b2 := HBs.out.cell 2
    simp only [List.getElem?_toArray, List.getElem?_cons_zero, List.getElem?_cons_succ] at b0 b1 b2
    have e1 := rl_velem78 ⟨a, 0, none⟩ ⟨P, 0, none⟩ W0 HAs.out
    have hPn : Holds (W0.alloc (.cells #[.pointer (some ⟨b, 0, none⟩)] 102)) P 102 #[.pointer m] := HPs.out.moves ((Moves.refl nobody _).alloc _) (fun h => h)
    have s1 := rl_vset37 P W0.heap.size (some ⟨b, 0, none⟩) m (W0.alloc (.cells #[.pointer (some ⟨b, 0, none⟩)] 102)) ((Holds.new W0 102 #[.pointer (some ⟨b, 0, none⟩)]).cell 0) (by simpa using hPn.cell 0) (hPn.frozen 0)
    have hS := Lib.hid (Holds.set hPn 0 (.pointer (some ⟨b, 0, none⟩)))
    have hM := Lib.hid ((HMs.out.alloc (.cells #[.pointer (some ⟨b, 0, none⟩)] 102)).setCell (p := ⟨P, 0, none⟩) (.inl rfl) (.pointer (some ⟨b, 0, none⟩)))
    clear hPn
    refine wp_loop_rounds 1 ?_
    rw [rounds_succ]
    go_wp2_with fail
    go_ret
    exact .inr ⟨b, rfl, rfl, hM.out, hS.out⟩

def TypeOfError (w : World) : Prop := 1 < w.heap.size ∧ w.cell? ⟨1, 0, none⟩ = some (.iface 141 (.agg #[.pointer (some ⟨2, 38, none⟩)]))
theorem TypeOfError.later {w w' : World} (h : TypeOfError w) (hb : Below w.heap.size w w') : TypeOfError w' := ⟨Nat.lt_of_lt_of_le h.1 hb.size, (hb.cell (p := ⟨1, 0, none⟩) h.1).trans h.2⟩

theorem As_nil (v : Value) (w : World) : Calls Tryd.prog 51 #[.nilIface, v] w fun r w' => r = .returned (.bool false) ∧ w' = w := by
  go_enter Tryd.func51, Tryd.ntmps51
  go_wp2_with fail
  go_ret
  exact ⟨rfl, rfl⟩

theorem as_fault_no {w : World} (e : Int) {P a : Nat} {m : Option Addr} (hP : Holds w P 102 #[.pointer m]) (ha : w.cell? ⟨a, 0, none⟩ = some (.pointer (some ⟨P, 0, none⟩))) :
    Calls Tryd.prog 67 #[.iface 42 (.int .i64 e), .iface 121 (.pointer (some ⟨P, 0, none⟩)), .agg #[.pointer (some ⟨2, 121, none⟩), .pointer (some ⟨a, 0, none⟩), .int .u64 150], .iface 141 (.agg #[.pointer (some ⟨2, 102, none⟩)])] w fun r w' => r = .returned (.bool false) ∧ Holds w' P 102 #[.pointer m] ∧ Moves (fun k => k = P) w w' :=
  (as_fault (ErrAt.num e) (by simp) hP ha).mono fun r w' h => by
    rcases h with ⟨_, h1, h2, h3⟩ | ⟨b, h0, _⟩
    · exact ⟨h1, h3, h2⟩
    · simp at h0
theorem as_fault_yes {w : World} {b : Nat} {x : ByteArray} {path : List ByteArray} {n : Option Int} (hv : ErrAt w (.iface 102 (.pointer (some ⟨b, 0, none⟩))) (x :: path) n) {P a : Nat} {m : Option Addr} (hP : Holds w P 102 #[.pointer m]) (ha : w.cell? ⟨a, 0, none⟩ = some (.pointer (some ⟨P, 0, none⟩))) :
    Calls Tryd.prog 67 #[.iface 102 (.pointer (some ⟨b, 0, none⟩)), .iface 121 (.pointer (some ⟨P, 0, none⟩)), .agg #[.pointer (some ⟨2, 121, none⟩), .pointer (some ⟨a, 0, none⟩), .int .u64 150], .iface 141 (.agg #[.pointer (some ⟨2, 102, none⟩)])] w fun r w' => r = .returned (.bool true) ∧ Holds w' P 102 #[.pointer (some ⟨b, 0, none⟩)] ∧ Moves (fun k => k = P) w w' :=
  (as_fault hv (by simp) hP ha).mono fun r w' h => by
    rcases h with ⟨h0, _⟩ | ⟨b', h0, h1, h2, h3⟩
    · cases h0
    · simp only [Value.iface.injEq, Value.pointer.injEq, Option.some.injEq, Addr.mk.injEq, true_and, and_true] at h0
      subst h0
      exact ⟨h1, h3, h2⟩

set_option maxHeartbeats 4000000 in
set_option maxRecDepth 100000 in
theorem As_num {w : World} (hg : TypeOfError w) {v : Value} {path : List ByteArray} {n : Option Int} (hv : ErrAt w v path n) (hne : v ≠ .nilIface) {P : Nat} {m : Int} (hP : Holds w P 42 #[.int .i64 m]) :
    Calls Tryd.prog 51 #[v, .iface 109 (.pointer (some ⟨P, 0, none⟩))] w fun r w' => r = .returned (.bool n.isSome) ∧ Holds w' P 42 #[.int .i64 (n.getD m)] ∧ Moves (fun k => k = P) w w' := by
  have h51 := @run_callFunc_extern Tryd.prog 64 _ (fun args => Extern.ReflectliteValue.unpack (args.getD 0 (.tuple #[]))) Tryd.func64 (by kernel_rfl) (by kernel_rfl) (by kernel_rfl) (by kernel_rfl)
  have h52 := @run_callFunc_extern Tryd.prog 65 _ fnVType Tryd.func65 (by kernel_rfl) (by kernel_rfl) (by kernel_rfl) (by kernel_rfl)
  have h75 := @run_callFunc_extern Tryd.prog 91 _ fnKind Tryd.func91 (by kernel_rfl) (by kernel_rfl) (by kernel_rfl) (by kernel_rfl)
  have h53 := @run_callFunc_extern Tryd.prog 66 _ fnIsNil Tryd.func66 (by kernel_rfl) (by kernel_rfl) (by kernel_rfl) (by kernel_rfl)
  have h85 := @run_callFunc_extern Tryd.prog 103 _ (Extern.ReflectliteType.method Extern.ReflectliteType.elem) Tryd.func103 (by kernel_rfl) (by kernel_rfl) (by kernel_rfl) (by kernel_rfl)
  have h86 := @run_callFunc_extern Tryd.prog 104 _ (Extern.ReflectliteType.relation "Implements" Extern.ReflectliteType.implements_) Tryd.func104 (by kernel_rfl) (by kernel_rfl) (by kernel_rfl) (by kernel_rfl)
  have f1 := rl_valueOf73
  have f2 := rl_type73
  have f3 := rl_kind73
  have f5 := rl_elem73
  have f6 := rl_kind24
  have f7 := rl_impl24
  have m1 := meth_elem
  have m2 := meth_impl
  have m3 := meth_kind
  obtain ⟨W2, hW2⟩ : ∃ W2, W2 = (w.alloc (.cells #[.pointer (some ⟨P, 0, none⟩)] 109)).alloc (.cells #[.pointer (some ⟨2, 109, none⟩), .pointer (some ⟨w.heap.size, 0, none⟩), .int .u64 150] 125) := ⟨_, rfl⟩
  have hb2 : Below w.heap.size w W2 := by rw [hW2]; exact ((Below.refl _ _).alloc (Nat.le_refl _) _).alloc (by simp) _
  have ha2 : W2.cell? ⟨w.heap.size, 0, none⟩ = some (.pointer (some ⟨P, 0, none⟩)) := by
    rw [hW2]
    have := ((Holds.new w 109 #[.pointer (some ⟨P, 0, none⟩)]).moves ((Moves.refl nobody _).alloc (.cells #[.pointer (some ⟨2, 109, none⟩), .pointer (some ⟨w.heap.size, 0, none⟩), .int .u64 150] 125)) (fun h => h)).cell 0
    exact this
  have f4 := rl_isNil73 ⟨w.heap.size, 0, none⟩ ⟨P, 0, none⟩ W2 ha2
  have hg2 := (hg.later hb2).2
  have hC := Lib.hid (as_num (hv.later hb2) hne (hP.moves (Moves.ofBelow (S := nobody) hb2) (fun h => h)) ha2)
  have hMw : Hid (Moves (fun k => k = P) w W2) := Moves.ofBelow hb2
  have hbl : Holds W2 (w.heap.size + 1) 125 #[.pointer (some ⟨2, 109, none⟩), .pointer (some ⟨w.heap.size, 0, none⟩), .int .u64 150] := by
    rw [hW2]
    have := Holds.new (w.alloc (.cells #[.pointer (some ⟨P, 0, none⟩)] 109)) 125 #[.pointer (some ⟨2, 109, none⟩), .pointer (some ⟨w.heap.size, 0, none⟩), .int .u64 150]
    rwa [World.size_alloc] at this
  have b0 := hbl.cell 0
  have b1 := hbl.cell 1
  have b2 := hbl.cell 2
  simp only [List.getElem?_toArray, List.getElem?_cons_zero, List.getElem?_cons_succ] at b0 b1 b2
  have HNE := Lib.hid hne
  obtain ⟨t0, v0, rfl⟩ : ∃ t0 v0, v = .iface t0 v0 := by
    cases hv with
    | none => exact absurd rfl hne
    | num e => exact ⟨_, _, rfl⟩
    | fault _ _ _ _ => exact ⟨_, _, rfl⟩
  clear hg hv hne hP hb2 ha2 hbl
  subst hW2
  go_enter Tryd.func51, Tryd.ntmps51
  go_wp2_with (go_at_call 67; with_reducible refine hC.out.mono ?_; rintro r w1 ⟨rfl, hS, hM⟩)
  go_ret
  exact ⟨rfl, hS, hMw.out.trans hM (fun i h => .inl h)⟩

set_option maxHeartbeats 4000000 in
set_option maxRecDepth 100000 in
theorem As_fault_no {w : World} (hg : TypeOfError w) (e : Int) {P : Nat} {m : Option Addr} (hP : Holds w P 102 #[.pointer m]) :
    Calls Tryd.prog 51 #[.iface 42 (.int .i64 e), .iface 121 (.pointer (some ⟨P, 0, none⟩))] w fun r w' => r = .returned (.bool false) ∧ Holds w' P 102 #[.pointer m] ∧ Moves (fun k => k = P) w w' := by
  have h51 := @run_callFunc_extern Tryd.prog 64 _ (fun args => Extern.ReflectliteValue.unpack (args.getD 0 (.tuple #[]))) Tryd.func64 (by kernel_rfl) (by kernel_rfl) (by kernel_rfl) (by kernel_rfl)
  have h52 := @run_callFunc_extern Tryd.prog 65 _ fnVType Tryd.func65 (by kernel_rfl) (by kernel_rfl) (by kernel_rfl) (by kernel_rfl)
  have h75 := @run_callFunc_extern Tryd.prog 91 _ fnKind Tryd.func91 (by kernel_rfl) (by kernel_rfl) (by kernel_rfl) (by kernel_rfl)
  have h53 := @run_callFunc_extern Tryd.prog 66 _ fnIsNil Tryd.func66 (by kernel_rfl) (by kernel_rfl) (by kernel_rfl) (by kernel_rfl)
  have h85 := @run_callFunc_extern Tryd.prog 103 _ (Extern.ReflectliteType.method Extern.ReflectliteType.elem) Tryd.func103 (by kernel_rfl) (by kernel_rfl) (by kernel_rfl) (by kernel_rfl)
  have h86 := @run_callFunc_extern Tryd.prog 104 _ (Extern.ReflectliteType.relation "Implements" Extern.ReflectliteType.implements_) Tryd.func104 (by kernel_rfl) (by kernel_rfl) (by kernel_rfl) (by kernel_rfl)
  have f1 := rl_valueOf78
  have f2 := rl_type78
  have f3 := rl_kind78
  have f5 := rl_elem78
  have f6 := rl_kind37
  have f7 := rl_impl37
  have m1 := meth_elem
  have m2 := meth_impl
  have m3 := meth_kind
  obtain ⟨W2, hW2⟩ : ∃ W2, W2 = (w.alloc (.cells #[.pointer (some ⟨P, 0, none⟩)] 121)).alloc (.cells #[.pointer (some ⟨2, 121, none⟩), .pointer (some ⟨w.heap.size, 0, none⟩), .int .u64 150] 125) := ⟨_, rfl⟩
  have hb2 : Below w.heap.size w W2 := by rw [hW2]; exact ((Below.refl _ _).alloc (Nat.le_refl _) _).alloc (by simp) _
  have ha2 : W2.cell? ⟨w.heap.size, 0, none⟩ = some (.pointer (some ⟨P, 0, none⟩)) := by
    rw [hW2]
    have := ((Holds.new w 121 #[.pointer (some ⟨P, 0, none⟩)]).moves ((Moves.refl nobody _).alloc (.cells #[.pointer (some ⟨2, 121, none⟩), .pointer (some ⟨w.heap.size, 0, none⟩), .int .u64 150] 125)) (fun h => h)).cell 0
    exact this
  have f4 := rl_isNil78 ⟨w.heap.size, 0, none⟩ ⟨P, 0, none⟩ W2 ha2
  have hg2 := (hg.later hb2).2
  have hC := Lib.hid (as_fault_no e (hP.moves (Moves.ofBelow (S := nobody) hb2) (fun h => h)) ha2)
  have hMw : Hid (Moves (fun k => k = P) w W2) := Moves.ofBelow hb2
  have hbl : Holds W2 (w.heap.size + 1) 125 #[.pointer (some ⟨2, 121, none⟩), .pointer (some ⟨w.heap.size, 0, none⟩), .int .u64 150] := by
    rw [hW2]
    have := Holds.new (w.alloc (.cells #[.pointer (some ⟨P, 0, none⟩)] 121)) 125 #[.pointer (some ⟨2, 121, none⟩), .pointer (some ⟨w.heap.size, 0, none⟩), .int .u64 150]
    rwa [World.size_alloc] at this
  have b0 := hbl.cell 0
  have b1 := hbl.cell 1
  have b2 := hbl.cell 2
  simp only [List.getElem?_toArray, List.getElem?_cons_zero, List.getElem?_cons_succ] at b0 b1 b2
  clear hg hP hb2 ha2 hbl
  subst hW2
  go_enter Tryd.func51, Tryd.ntmps51
  go_wp2_with (go_at_call 67; with_reducible refine hC.out.mono ?_; rintro r w1 ⟨rfl, hS, hM⟩)
  go_ret
  exact ⟨rfl, hS, hMw.out.trans hM (fun i h => .inl h)⟩

set_option maxHeartbeats 4000000 in
set_option maxRecDepth 100000 in
theorem As_fault_yes {w : World} (hg : TypeOfError w) {b : Nat} {x : ByteArray} {path : List ByteArray} {n : Option Int} (hv : ErrAt w (.iface 102 (.pointer (some ⟨b, 0, none⟩))) (x :: path) n) {P : Nat} {m : Option Addr} (hP : Holds w P 102 #[.pointer m]) :
    Calls Tryd.prog 51 #[.iface 102 (.pointer (some ⟨b, 0, none⟩)), .iface 121 (.pointer (some ⟨P, 0, none⟩))] w fun r w' => r = .returned (.bool true) ∧ Holds w' P 102 #[.pointer (some ⟨b, 0, none⟩)] ∧ Moves (fun k => k = P) w w' := by
  have h51 := @run_callFunc_extern Tryd.prog 64 _ (fun args => Extern.ReflectliteValue.unpack (args.getD 0 (.tuple #[]))) Tryd.func64 (by kernel_rfl) (by kernel_rfl) (by kernel_rfl) (by kernel_rfl)
  have h52 := @run_callFunc_extern Tryd.prog 65 _ fnVType Tryd.func65 (by kernel_rfl) (by kernel_rfl) (by kernel_rfl) (by kernel_rfl)
  have h75 := @run_callFunc_extern Tryd.prog 91 _ fnKind Tryd.func91 (by kernel_rfl) (by kernel_rfl) (by kernel_rfl) (by kernel_rfl)
  have h53 := @run_callFunc_extern Tryd.prog 66 _ fnIsNil Tryd.func66 (by kernel_rfl) (by kernel_rfl) (by kernel_rfl) (by kernel_rfl)
  have h85 := @run_callFunc_extern Tryd.prog 103 _ (Extern.ReflectliteType.method Extern.ReflectliteType.elem) Tryd.func103 (by kernel_rfl) (by kernel_rfl) (by kernel_rfl) (by kernel_rfl)
  have h86 := @run_callFunc_extern Tryd.prog 104 _ (Extern.ReflectliteType.relation "Implements" Extern.ReflectliteType.implements_) Tryd.func104 (by kernel_rfl) (by kernel_rfl) (by kernel_rfl) (by kernel_rfl)
  have f1 := rl_valueOf78
  have f2 := rl_type78
  have f3 := rl_kind78
  have f5 := rl_elem78
  have f6 := rl_kind37
  have f7 := rl_impl37
  have m1 := meth_elem
  have m2 := meth_impl
  have m3 := meth_kind
  obtain ⟨W2, hW2⟩ : ∃ W2, W2 = (w.alloc (.cells #[.pointer (some ⟨P, 0, none⟩)] 121)).alloc (.cells #[.pointer (some ⟨2, 121, none⟩), .pointer (some ⟨w.heap.size, 0, none⟩), .int .u64 150] 125) := ⟨_, rfl⟩
  have hb2 : Below w.heap.size w W2 := by rw [hW2]; exact ((Below.refl _ _).alloc (Nat.le_refl _) _).alloc (by simp) _
  have ha2 : W2.cell? ⟨w.heap.size, 0, none⟩ = some (.pointer (some ⟨P, 0, none⟩)) := by
    rw [hW2]
    have := ((Holds.new w 121 #[.pointer (some ⟨P, 0, none⟩)]).moves ((Moves.refl nobody _).alloc (.cells #[.pointer (some ⟨2, 121, none⟩), .pointer (some ⟨w.heap.size, 0, none⟩), .int .u64 150] 125)) (fun h => h)).cell 0
    exact this
  have f4 := rl_isNil78 ⟨w.heap.size, 0, none⟩ ⟨P, 0, none⟩ W2 ha2
  have hg2 := (hg.later hb2).2
  have hC := Lib.hid (as_fault_yes (hv.later hb2) (hP.moves (Moves.ofBelow (S := nobody) hb2) (fun h => h)) ha2)
  have hMw : Hid (Moves (fun k => k = P) w W2) := Moves.ofBelow hb2
  have hbl : Holds W2 (w.heap.size + 1) 125 #[.pointer (some ⟨2, 121, none⟩), .pointer (some ⟨w.heap.size, 0, none⟩), .int .u64 150] := by
    rw [hW2]
    have := Holds.new (w.alloc (.cells #[.pointer (some ⟨P, 0, none⟩)] 121)) 125 #[.pointer (some ⟨2, 121, none⟩), .pointer (some ⟨w.heap.size, 0, none⟩), .int .u64 150]
    rwa [World.size_alloc] at this
  have b0 := hbl.cell 0
  have b1 := hbl.cell 1
  have b2 := hbl.cell 2
  simp only [List.getElem?_toArray, List.getElem?_cons_zero, List.getElem?_cons_succ] at b0 b1 b2
  clear hg hv hP hb2 ha2 hbl
  subst hW2
  go_enter Tryd.func51, Tryd.ntmps51
  go_wp2_with (go_at_call 67; with_reducible refine hC.out.mono ?_; rintro r w1 ⟨rfl, hS, hM⟩)
  go_ret
  exact ⟨rfl, hS, hMw.out.trans hM (fun i h => .inl h)⟩
end Go.Proofs.YtjphlhehhigpjaaDoor
