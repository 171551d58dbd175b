/- errors.as over the project's chains of faults. -/
import Derived.Test.YtjphlhehhigpjaaDoorFlt1
import Derived.Test.YtjphlhehhigpjaaDoorFltA
namespace Go.Proofs.YtjphlhehhigpjaaDoor
open Go.RowKit Go.Extern.Stop Go.Stop Go.Extern

theorem fUnwrap_any {w : World} {b : Nat} {v : Value} (h : w.cell? ⟨b, 1, none⟩ = some v) : Calls Tryd.prog 96 #[.pointer (some ⟨b, 0, none⟩)] w fun e w' => e = .returned v ∧ w' = w := by
  go_enter Tryd.func96, Tryd.ntmps96
  go_wp2_with fail
  go_ret
  exact ⟨rfl, rfl⟩
theorem fUnwrap_nil (w : World) : Calls Tryd.prog 96 #[.pointer none] w fun e w' => e = .returned .nilIface ∧ w' = w := by
  go_enter Tryd.func96, Tryd.ntmps96
  go_wp2_with fail
  go_ret
  exact ⟨rfl, rfl⟩

set_option maxRecDepth 100000 in
theorem no_As24 (v : Value) (xT : TypeId) (w : World) : (Instr.typeAssert (.iface 42 v) xT 146 true).run Tryd.prog w = .ok (.tuple #[.nilIface, .bool false]) w := run_typeAssert_lacksB Tryd.underlying146 (by kernel_rfl) (by kernel_rfl) v xT w
set_option maxRecDepth 100000 in
theorem no_As37 (v : Value) (xT : TypeId) (w : World) : (Instr.typeAssert (.iface 102 v) xT 146 true).run Tryd.prog w = .ok (.tuple #[.nilIface, .bool false]) w := run_typeAssert_lacksB Tryd.underlying146 (by kernel_rfl) (by kernel_rfl) v xT w
set_option maxRecDepth 100000 in
theorem no_Unwrap24 (v : Value) (xT : TypeId) (w : World) : (Instr.typeAssert (.iface 42 v) xT 149 true).run Tryd.prog w = .ok (.tuple #[.nilIface, .bool false]) w := run_typeAssert_lacksB Tryd.underlying149 (by kernel_rfl) (by kernel_rfl) v xT w
set_option maxRecDepth 100000 in
theorem no_Unwraps24 (v : Value) (xT : TypeId) (w : World) : (Instr.typeAssert (.iface 42 v) xT 151 true).run Tryd.prog w = .ok (.tuple #[.nilIface, .bool false]) w := run_typeAssert_lacksB Tryd.underlying151 (by kernel_rfl) (by kernel_rfl) v xT w
set_option maxRecDepth 100000 in
theorem has_Unwrap37 (v : Value) (xT : TypeId) (w : World) : (Instr.typeAssert (.iface 102 v) xT 149 true).run Tryd.prog w = .ok (.tuple #[.iface 102 v, .bool true]) w := run_typeAssert_hasB Tryd.underlying149 (by kernel_rfl) v xT w

set_option maxRecDepth 100000 in
theorem meth_assign (v : Value) (w : World) : (Go.method 286 141 v "AssignableTo").run Tryd.prog w = .ok (101, v) w := by kernel_rfl
set_option maxRecDepth 100000 in
theorem meth_elem (v : Value) (w : World) : (Go.method 286 141 v "Elem").run Tryd.prog w = .ok (103, v) w := by kernel_rfl
set_option maxRecDepth 100000 in
theorem meth_impl (v : Value) (w : World) : (Go.method 286 141 v "Implements").run Tryd.prog w = .ok (104, v) w := by kernel_rfl
set_option maxRecDepth 100000 in
theorem meth_comp (v : Value) (w : World) : (Go.method 286 141 v "Comparable").run Tryd.prog w = .ok (102, v) w := by kernel_rfl
set_option maxRecDepth 100000 in
theorem meth_kind (t : Nat) (w : World) : (Go.method 286 141 (.agg #[.pointer (some ⟨2, t, none⟩)]) "Kind").run Tryd.prog w = .ok (91, .pointer (some ⟨2, t, none⟩)) w := by kernel_rfl
set_option maxRecDepth 100000 in
theorem meth_unwrap (v : Value) (w : World) : (Go.method 286 102 v "Unwrap").run Tryd.prog w = .ok (96, v) w := by kernel_rfl

set_option maxRecDepth 100000 in
theorem as_num {w : World} {v : Value} {path : List ByteArray} {n : Option Int} (hv : ErrAt w v path n) (hne : v ≠ .nilIface) {P a : Nat} {m : Int} (hP : Holds w P 42 #[.int .i64 m]) (ha : w.cell? ⟨a, 0, none⟩ = some (.pointer (some ⟨P, 0, none⟩))) :
    Calls Tryd.prog 67 #[v, .iface 109 (.pointer (some ⟨P, 0, none⟩)), .agg #[.pointer (some ⟨2, 109, none⟩), .pointer (some ⟨a, 0, none⟩), .int .u64 150], .iface 141 (.agg #[.pointer (some ⟨2, 42, none⟩)])] w fun r w' => r = .returned (.bool n.isSome) ∧ Holds w' P 42 #[.int .i64 (n.getD m)] ∧ Moves (fun k => k = P) w w' := by
  have h45 := @run_callFunc_extern Tryd.prog 73 _ Extern.ReflectliteType.typeOf Tryd.func73 (by kernel_rfl) (by kernel_rfl) (by kernel_rfl) (by kernel_rfl)
  have h51 := @run_callFunc_extern Tryd.prog 64 _ (fun args => Extern.ReflectliteValue.unpack (args.getD 0 (.tuple #[]))) Tryd.func64 (by kernel_rfl) (by kernel_rfl) (by kernel_rfl) (by kernel_rfl)
  have h57 := @run_callFunc_extern Tryd.prog 74 _ fnVElem Tryd.func74 (by kernel_rfl) (by kernel_rfl) (by kernel_rfl) (by kernel_rfl)
  have h58 := @run_callFunc_extern Tryd.prog 75 _ Extern.ReflectliteValue.set Tryd.func75 (by kernel_rfl) (by kernel_rfl) (by kernel_rfl) (by kernel_rfl)
  have h83 := @run_callFunc_extern Tryd.prog 101 _ (Extern.ReflectliteType.relation "AssignableTo" Extern.ReflectliteType.assignableTo) Tryd.func101 (by kernel_rfl) (by kernel_rfl) (by kernel_rfl) (by kernel_rfl)
  have t24 := rl_typeOf24
  have t37 := rl_typeOf37
  have a1 := rl_asg_nn
  have a2 := rl_asg_fn
  have v24 := rl_valueOf24
  have u1 := no_As37
  have u2 := has_Unwrap37
  have m1 := meth_assign
  have m2 := meth_unwrap
  have hv0 : ErrAt (w.alloc (.cells #[.pointer (some ⟨2, 109, none⟩), .pointer (some ⟨a, 0, none⟩), .int .u64 150] 125)) v path n := hv.later ((Below.refl _ _).alloc (Nat.le_refl _) _)
  have hP0 : Holds (w.alloc (.cells #[.pointer (some ⟨2, 109, none⟩), .pointer (some ⟨a, 0, none⟩), .int .u64 150] 125)) P 42 #[.int .i64 m] := hP.moves ((Moves.refl nobody _).alloc _) (fun h => h)
  have ha0 : (w.alloc (.cells #[.pointer (some ⟨2, 109, none⟩), .pointer (some ⟨a, 0, none⟩), .int .u64 150] 125)).cell? ⟨a, 0, none⟩ = some (.pointer (some ⟨P, 0, none⟩)) := (((Below.refl w.heap.size w).alloc (Nat.le_refl _) _).cell (p := ⟨a, 0, none⟩) (World.block_lt_of_cell? w _ ha)).trans ha
  have hb0 : Holds (w.alloc (.cells #[.pointer (some ⟨2, 109, none⟩), .pointer (some ⟨a, 0, none⟩), .int .u64 150] 125)) w.heap.size 125 #[.pointer (some ⟨2, 109, none⟩), .pointer (some ⟨a, 0, none⟩), .int .u64 150] := Holds.new w _ _
  have hm0 : Moves (fun k => k = P) w (w.alloc (.cells #[.pointer (some ⟨2, 109, none⟩), .pointer (some ⟨a, 0, none⟩), .int .u64 150] 125)) := (Moves.refl _ _).alloc _
  have HV := Lib.hid hv0
  have HPs := Lib.hid hP0
  have HAs := Lib.hid ha0
  have HBs := Lib.hid hb0
  have HMs := Lib.hid hm0
  clear hv hP ha hv0 hP0 ha0 hb0 hm0
  go_enter Tryd.func67, Tryd.ntmps67
  go_wp2_with fail
  generalize w.alloc (.cells #[.pointer (some ⟨2, 109, none⟩), .pointer (some ⟨a, 0, none⟩), .int .u64 150] 125) = W0 at *
  generalize w.heap.size = N0 at *
  have b0 := HBs.out.cell 0
  have b1 := HBs.out.cell 1
  have b2 := HBs.out.cell 2
  simp only [List.getElem?_toArray, List.getElem?_cons_zero, List.getElem?_cons_succ] at b0 b1 b2
  have HNE := Lib.hid hne
  clear hne
  go_loopw [0] (fun u wr => ∃ p, ErrAt W0 u p n ∧ u ≠ .nilIface ∧ wr = W0) (fun u wr => depthAt wr u)
  case atStart => exact ⟨path, HV.out, HNE.out, rfl⟩
  case round =>
    obtain ⟨p, hu, hun, rfl⟩ := hrel
    cases hu with
    | none => exact absurd rfl hun
    | num e =>
      have e1 := rl_velem73 ⟨a, 0, none⟩ ⟨P, 0, none⟩ wr HAs.out
      have hPn : Holds (wr.alloc (.cells #[.int .i64 e] 42)) P 42 #[.int .i64 m] := HPs.out.moves ((Moves.refl nobody _).alloc _) (fun h => h)
      have s1 := rl_vset24 P wr.heap.size e m (wr.alloc (.cells #[.int .i64 e] 42)) ((Holds.new wr 42 #[.int .i64 e]).cell 0) (by simpa using hPn.cell 0) (hPn.frozen 0)
      have hS := Lib.hid (Holds.set hPn 0 (.int .i64 e))
      have hM := Lib.hid ((HMs.out.alloc (.cells #[.int .i64 e] 42)).setCell (p := ⟨P, 0, none⟩) (.inl rfl) (.int .i64 e))
      clear hPn
      go_wp2_with fail
      go_ret
      exact ⟨rfl, hS.out, hM.out⟩
    | @fault b x v1 path1 n1 k1 k2 k3 k4 =>
      have hdep := ErrAt.depth (ErrAt.fault k1 k2 k3 k4)
      have K4 := Lib.hid k4
      clear k1 k4
      cases v1 with
      | nilIface =>
        have hnn : Hid (n = none) := by
          have := K4.out
          cases this; rfl
        go_wp2_with (go_at_call 96; refine (fUnwrap_any k3).mono ?_; rintro e w1 ⟨rfl, hw⟩; subst hw)
        go_ret
        exact ⟨by rw [hnn.out]; rfl, by rw [hnn.out]; exact HPs.out, HMs.out⟩
      | iface t0 v0 =>
        go_wp2_with (go_at_call 96; refine (fUnwrap_any k3).mono ?_; rintro e w1 ⟨rfl, hw⟩; subst hw)
        exact ⟨⟨path1, K4.out, by simp, trivial⟩, by rw [K4.out.depth, hdep]; simp⟩
      | _ =>
        exfalso
        have := K4.out
        cases this
end Go.Proofs.YtjphlhehhigpjaaDoor
