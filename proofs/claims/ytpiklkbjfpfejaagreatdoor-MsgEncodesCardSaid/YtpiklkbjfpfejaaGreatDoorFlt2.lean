/- errors.as over the project's chains of faults. -/
import Derived.Test.YtpiklkbjfpfejaaGreatDoorFlt1
namespace Go.Proofs.YtpiklkbjfpfejaaGreatDoor
open Go.RowKit Go.Extern.Stop Go.Stop Go.Extern

/-- An error in memory: its locations and its number, if it has one. -/
inductive ErrAt (w : World) : Value → List ByteArray → Option Int → Prop
  | none : ErrAt w .nilIface [] none
  | num (e : Int) : ErrAt w (.iface 31 (.int .i64 e)) [] (some e)
  | fault {b : Nat} {x : ByteArray} {v : Value} {path : List ByteArray} {n : Option Int} : b < w.heap.size → w.cell? ⟨b, 0, none⟩ = some (.string x) → w.cell? ⟨b, 1, none⟩ = some v → ErrAt w v path n → ErrAt w (.iface 78 (.pointer (some ⟨b, 0, none⟩))) (x :: path) n
theorem ErrAt.later {w w' : World} {v : Value} {path : List ByteArray} {n : Option Int} (h : ErrAt w v path n) (hb : Below w.heap.size w w') : ErrAt w' v path n := by
  induction h with
  | none => exact .none
  | num e => exact .num e
  | @fault b x v path n h1 h2 h3 _ ih => exact .fault (Nat.lt_of_lt_of_le h1 hb.size) ((hb.cell (p := ⟨b, 0, Option.none⟩) h1).trans h2) ((hb.cell (p := ⟨b, 1, Option.none⟩) h1).trans h3) ih

theorem ErrAt.same {w : World} {v : Value} {path : List ByteArray} {n : Option Int} (h : ErrAt w v path n) : ∀ {path' : List ByteArray} {n' : Option Int}, ErrAt w v path' n' → path = path' ∧ n = n' := by
  induction h with
  | none => intro _ _ k; cases k; exact ⟨rfl, rfl⟩
  | num e => intro _ _ k; cases k; exact ⟨rfl, rfl⟩
  | @fault b x v path n h1 h2 h3 _ ih =>
    intro _ _ k
    cases k with
    | fault k1 k2 k3 k4 =>
      have e2 := h2.symm.trans k2
      have e3 := h3.symm.trans k3
      simp only [Option.some.injEq, Value.string.injEq] at e2 e3
      subst e2 e3
      obtain ⟨rfl, rfl⟩ := ih k4
      exact ⟨rfl, rfl⟩
open Classical in
/-- How many locations. -/
noncomputable def depthAt (w : World) (v : Value) : Nat := if h : ∃ q : List ByteArray × Option Int, ErrAt w v q.1 q.2 then (Classical.choose h).1.length else 0
theorem ErrAt.depth {w : World} {v : Value} {path : List ByteArray} {n : Option Int} (h : ErrAt w v path n) : depthAt w v = path.length := by
  have hx : ∃ q : List ByteArray × Option Int, ErrAt w v q.1 q.2 := ⟨(path, n), h⟩
  unfold depthAt
  rw [dif_pos hx, ((Classical.choose_spec hx).same h).1]

theorem fUnwrap_any {w : World} {b : Nat} {v : Value} (h : w.cell? ⟨b, 1, none⟩ = some v) : Calls Tryz.prog 171 #[.pointer (some ⟨b, 0, none⟩)] w fun e w' => e = .returned v ∧ w' = w := by
  go_enter Tryz.func171, Tryz.ntmps171
  go_wp2_with fail
  go_ret
  exact ⟨rfl, rfl⟩
theorem fUnwrap_nil (w : World) : Calls Tryz.prog 171 #[.pointer none] w fun e w' => e = .returned .nilIface ∧ w' = w := by
  go_enter Tryz.func171, Tryz.ntmps171
  go_wp2_with fail
  go_ret
  exact ⟨rfl, rfl⟩

set_option maxRecDepth 100000 in
theorem no_As24 (v : Value) (xT : TypeId) (w : World) : (Instr.typeAssert (.iface 31 v) xT 167 true).run Tryz.prog w = .ok (.tuple #[.nilIface, .bool false]) w := run_typeAssert_lacksB Tryz.underlying167 (by kernel_rfl) (by kernel_rfl) v xT w
set_option maxRecDepth 100000 in
theorem no_As37 (v : Value) (xT : TypeId) (w : World) : (Instr.typeAssert (.iface 78 v) xT 167 true).run Tryz.prog w = .ok (.tuple #[.nilIface, .bool false]) w := run_typeAssert_lacksB Tryz.underlying167 (by kernel_rfl) (by kernel_rfl) v xT w
set_option maxRecDepth 100000 in
theorem no_Unwrap24 (v : Value) (xT : TypeId) (w : World) : (Instr.typeAssert (.iface 31 v) xT 170 true).run Tryz.prog w = .ok (.tuple #[.nilIface, .bool false]) w := run_typeAssert_lacksB Tryz.underlying170 (by kernel_rfl) (by kernel_rfl) v xT w
set_option maxRecDepth 100000 in
theorem no_Unwraps24 (v : Value) (xT : TypeId) (w : World) : (Instr.typeAssert (.iface 31 v) xT 172 true).run Tryz.prog w = .ok (.tuple #[.nilIface, .bool false]) w := run_typeAssert_lacksB Tryz.underlying172 (by kernel_rfl) (by kernel_rfl) v xT w
set_option maxRecDepth 100000 in
theorem has_Unwrap37 (v : Value) (xT : TypeId) (w : World) : (Instr.typeAssert (.iface 78 v) xT 170 true).run Tryz.prog w = .ok (.tuple #[.iface 78 v, .bool true]) w := run_typeAssert_hasB Tryz.underlying170 (by kernel_rfl) v xT w

set_option maxRecDepth 100000 in
theorem meth_assign (v : Value) (w : World) : (Go.method 329 162 v "AssignableTo").run Tryz.prog w = .ok (177, v) w := by kernel_rfl
set_option maxRecDepth 100000 in
theorem meth_elem (v : Value) (w : World) : (Go.method 329 162 v "Elem").run Tryz.prog w = .ok (179, v) w := by kernel_rfl
set_option maxRecDepth 100000 in
theorem meth_impl (v : Value) (w : World) : (Go.method 329 162 v "Implements").run Tryz.prog w = .ok (180, v) w := by kernel_rfl
set_option maxRecDepth 100000 in
theorem meth_comp (v : Value) (w : World) : (Go.method 329 162 v "Comparable").run Tryz.prog w = .ok (178, v) w := by kernel_rfl
set_option maxRecDepth 100000 in
theorem meth_kind (t : Nat) (w : World) : (Go.method 329 162 (.agg #[.pointer (some ⟨8, t, none⟩)]) "Kind").run Tryz.prog w = .ok (166, .pointer (some ⟨8, t, none⟩)) w := by kernel_rfl
set_option maxRecDepth 100000 in
theorem meth_unwrap (v : Value) (w : World) : (Go.method 329 78 v "Unwrap").run Tryz.prog w = .ok (171, v) w := by kernel_rfl

set_option maxRecDepth 100000 in
theorem as_num {w : World} {v : Value} {path : List ByteArray} {n : Option Int} (hv : ErrAt w v path n) (hne : v ≠ .nilIface) {P a : Nat} {m : Int} (hP : Holds w P 31 #[.int .i64 m]) (ha : w.cell? ⟨a, 0, none⟩ = some (.pointer (some ⟨P, 0, none⟩))) :
    Calls Tryz.prog 98 #[v, .iface 111 (.pointer (some ⟨P, 0, none⟩)), .agg #[.pointer (some ⟨8, 111, none⟩), .pointer (some ⟨a, 0, none⟩), .int .u64 150], .iface 162 (.agg #[.pointer (some ⟨8, 31, none⟩)])] w fun r w' => r = .returned (.bool n.isSome) ∧ Holds w' P 31 #[.int .i64 (n.getD m)] ∧ Moves (fun k => k = P) w w' := by
  have h45 := @run_callFunc_extern Tryz.prog 119 _ Extern.ReflectliteType.typeOf Tryz.func119 (by kernel_rfl) (by kernel_rfl) (by kernel_rfl) (by kernel_rfl)
  have h51 := @run_callFunc_extern Tryz.prog 95 _ (fun args => Extern.ReflectliteValue.unpack (args.getD 0 (.tuple #[]))) Tryz.func95 (by kernel_rfl) (by kernel_rfl) (by kernel_rfl) (by kernel_rfl)
  have h57 := @run_callFunc_extern Tryz.prog 120 _ fnVElem Tryz.func120 (by kernel_rfl) (by kernel_rfl) (by kernel_rfl) (by kernel_rfl)
  have h58 := @run_callFunc_extern Tryz.prog 121 _ Extern.ReflectliteValue.set Tryz.func121 (by kernel_rfl) (by kernel_rfl) (by kernel_rfl) (by kernel_rfl)
  have h83 := @run_callFunc_extern Tryz.prog 177 _ (Extern.ReflectliteType.relation "AssignableTo" Extern.ReflectliteType.assignableTo) Tryz.func177 (by kernel_rfl) (by kernel_rfl) (by kernel_rfl) (by kernel_rfl)
  have t24 := rl_typeOf24
  have t37 := rl_typeOf37
  have a1 := rl_asg_nn
  have a2 := rl_asg_fn
  have v24 := rl_valueOf24
  have u1 := no_As37
  have u2 := has_Unwrap37
  have m1 := meth_assign
  have m2 := meth_unwrap
  have hv0 : ErrAt (w.alloc (.cells #[.pointer (some ⟨8, 111, none⟩), .pointer (some ⟨a, 0, none⟩), .int .u64 150] 132)) v path n := hv.later ((Below.refl _ _).alloc (Nat.le_refl _) _)
  have hP0 : Holds (w.alloc (.cells #[.pointer (some ⟨8, 111, none⟩), .pointer (some ⟨a, 0, none⟩), .int .u64 150] 132)) P 31 #[.int .i64 m] := hP.moves ((Moves.refl nobody _).alloc _) (fun h => h)
  have ha0 : (w.alloc (.cells #[.pointer (some ⟨8, 111, none⟩), .pointer (some ⟨a, 0, none⟩), .int .u64 150] 132)).cell? ⟨a, 0, none⟩ = some (.pointer (some ⟨P, 0, none⟩)) := (((Below.refl w.heap.size w).alloc (Nat.le_refl _) _).cell (p := ⟨a, 0, none⟩) (World.block_lt_of_cell? w _ ha)).trans ha
  have hb0 : Holds (w.alloc (.cells #[.pointer (some ⟨8, 111, none⟩), .pointer (some ⟨a, 0, none⟩), .int .u64 150] 132)) w.heap.size 132 #[.pointer (some ⟨8, 111, none⟩), .pointer (some ⟨a, 0, none⟩), .int .u64 150] := Holds.new w _ _
  have hm0 : Moves (fun k => k = P) w (w.alloc (.cells #[.pointer (some ⟨8, 111, none⟩), .pointer (some ⟨a, 0, none⟩), .int .u64 150] 132)) := (Moves.refl _ _).alloc _
  have HV := Lib.hid hv0
  have HPs := Lib.hid hP0
  have HAs := Lib.hid ha0
  have HBs := Lib.hid hb0
  have HMs := Lib.hid hm0
  clear hv hP ha hv0 hP0 ha0 hb0 hm0
  go_enter Tryz.func98, Tryz.ntmps98
  go_wp2_with fail
  generalize w.alloc (.cells #[.pointer (some ⟨8, 111, none⟩), .pointer (some ⟨a, 0, none⟩), .int .u64 150] 132) = W0 at *
  generalize w.heap.size = N0 at *
  have b0 := HBs.out.cell 0
  have b1 := HBs.out.cell 1
  have b2 := HBs.out.cell 2
  simp only [List.getElem?_toArray, List.getElem?_cons_zero, List.getElem?_cons_succ] at b0 b1 b2
  have HNE := Lib.hid hne
  clear hne
  go_loopw [0] (fun u wr => ∃ p, ErrAt W0 u p n ∧ u ≠ .nilIface ∧ wr = W0) (fun u wr => depthAt wr u)
  case atStart => exact ⟨path, HV.out, HNE.out, rfl⟩
  case round =>
    obtain ⟨p, hu, hun, rfl⟩ := hrel
    cases hu with
    | none => exact absurd rfl hun
    | num e =>
      have e1 := rl_velem73 ⟨a, 0, none⟩ ⟨P, 0, none⟩ wr HAs.out
      have hPn : Holds (wr.alloc (.cells #[.int .i64 e] 31)) P 31 #[.int .i64 m] := HPs.out.moves ((Moves.refl nobody _).alloc _) (fun h => h)
      have s1 := rl_vset24 P wr.heap.size e m (wr.alloc (.cells #[.int .i64 e] 31)) ((Holds.new wr 31 #[.int .i64 e]).cell 0) (by simpa using hPn.cell 0) (hPn.frozen 0)
      have hS := Lib.hid (Holds.set hPn 0 (.int .i64 e))
      have hM := Lib.hid ((HMs.out.alloc (.cells #[.int .i64 e] 31)).setCell (p := ⟨P, 0, none⟩) (.inl rfl) (.int .i64 e))
      clear hPn
      go_wp2_with fail
      go_ret
      exact ⟨rfl, hS.out, hM.out⟩
    | @fault b x v1 path1 n1 k1 k2 k3 k4 =>
      have hdep := ErrAt.depth (ErrAt.fault k1 k2 k3 k4)
      have K4 := Lib.hid k4
      clear k1 k4
      cases v1 with
      | nilIface =>
        have hnn : Hid (n = none) := by
          have := K4.out
          cases this; rfl
        go_wp2_with (go_at_call 171; refine (fUnwrap_any k3).mono ?_; rintro e w1 ⟨rfl, hw⟩; subst hw)
        go_ret
        exact ⟨by rw [hnn.out]; rfl, by rw [hnn.out]; exact HPs.out, HMs.out⟩
      | iface t0 v0 =>
        go_wp2_with (go_at_call 171; refine (fUnwrap_any k3).mono ?_; rintro e w1 ⟨rfl, hw⟩; subst hw)
        exact ⟨⟨path1, K4.out, by simp, trivial⟩, by rw [K4.out.depth, hdep]; simp⟩
      | _ =>
        exfalso
        have := K4.out
        cases this
end Go.Proofs.YtpiklkbjfpfejaaGreatDoor
