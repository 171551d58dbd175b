/- errors.Is over the project's chains of faults; At, Of, Code, Reason. -/
import Derived.Test.YtambeipbpemlkaaDoorFlt4
import Derived.Lib.IfaceEq
namespace Go.Proofs.YtambeipbpemlkaaDoor
open Go.RowKit Go.Extern.Stop Go.Stop Go.Extern

def fnComp : Array Value → Sem Value := ReflectliteType.method fun t => do Rtype.noPackHeld "Comparable" t; pure (.bool (← typeInfo t).comparable)
set_option maxRecDepth 100000 in
theorem rl_comp24 (w : World) : (fnComp #[.agg #[.pointer (some ⟨3, 24, none⟩)]]).run Tryd.prog w = .ok (.bool true) w := by kernel_rfl
set_option maxRecDepth 100000 in
theorem eq_nums (a b : Int) (w : World) : (binOp .eql 26 (.iface 24 (.int .i64 a)) (.iface 24 (.int .i64 b))).run Tryd.prog w = .ok (.bool (a == b)) w :=
  Lib.run_eql_iface_int (P := Tryd.prog) w a b Tryd.underlying26 (by kernel_rfl) Tryd.underlying24
theorem eq_fault_num (v u : Value) (w : World) : (binOp .eql 26 (.iface 37 v) (.iface 24 u)).run Tryd.prog w = .ok (.bool false) w :=
  run_eql_iface_types (P := Tryd.prog) 37 24 v u Tryd.underlying26 (by decide) w

set_option maxRecDepth 100000 in
theorem is_in {w : World} {v : Value} {path : List ByteArray} {n : Option Int} (hv : ErrAt w v path n) (hne : v ≠ .nilIface) (e : Int) :
    Calls Tryd.prog 46 #[v, .iface 24 (.int .i64 e), .bool true] w fun r w' => r = .returned (.bool (n == some e)) ∧ w' = w := by
  have q1 := eq_nums
  have q2 := eq_fault_num
  have u1 := no_Is24
  have u2 := no_Is37
  have u3 := no_Unwrap24
  have u4 := no_Unwraps24
  have u5 := has_Unwrap37
  have m2 := meth_unwrap
  have HV := Lib.hid hv
  have HNE := Lib.hid hne
  clear hv hne
  go_enter Tryd.func46, Tryd.ntmps46
  go_wp2_with fail
  go_loopw [0] (fun u wr => ∃ p, ErrAt w u p n ∧ u ≠ .nilIface ∧ wr = w) (fun u wr => depthAt wr u)
  case atStart => exact ⟨path, HV.out, HNE.out, rfl⟩
  case round =>
    obtain ⟨p, hu, hun, rfl⟩ := hrel
    cases hu with
    | none => exact absurd rfl hun
    | num a =>
      cases hae : (a == e) with
      | true =>
        have hfin : Hid (((some a : Option Int) == some e) = true) := by
          show _ = _
          simpa using hae
        go_wp2_with fail
        go_ret
        exact ⟨by rw [hfin.out]; rfl, rfl⟩
      | false =>
        have hfin : Hid (((some a : Option Int) == some e) = false) := by
          show _ = _
          simpa using hae
        go_wp2_with fail
        go_ret
        exact ⟨by rw [hfin.out]; rfl, rfl⟩
    | @fault b x v1 path1 n1 k1 k2 k3 k4 =>
      have hdep := ErrAt.depth (ErrAt.fault k1 k2 k3 k4)
      have K4 := Lib.hid k4
      clear k1 k4
      cases v1 with
      | nilIface =>
        have hnn : Hid (n = none) := by
          have := K4.out
          cases this; rfl
        go_wp2_with (go_at_call 20; refine (fUnwrap_any k3).mono ?_; rintro r w1 ⟨rfl, hw⟩; subst hw)
        go_ret
        exact ⟨by rw [hnn.out]; rfl, rfl⟩
      | iface t0 v0 =>
        go_wp2_with (go_at_call 20; refine (fUnwrap_any k3).mono ?_; rintro r w1 ⟨rfl, hw⟩; subst hw)
        exact ⟨⟨path1, K4.out, by simp, trivial⟩, by rw [K4.out.depth, hdep]; simp⟩
      | _ =>
        exfalso
        have := K4.out
        cases this

set_option maxRecDepth 100000 in
theorem Is_err {w : World} {v : Value} {path : List ByteArray} {n : Option Int} (hv : ErrAt w v path n) (e : Int) :
    Calls Tryd.prog 37 #[v, .iface 24 (.int .i64 e)] w fun r w' => r = .returned (.bool (n == some e)) ∧ w' = w := by
  by_cases hne : v = .nilIface
  · subst hne
    cases hv
    have hn := run_eql_iface_nil_left (P := Tryd.prog) w 24 (.int .i64 e) Tryd.underlying26
    go_enter Tryd.func37, Tryd.ntmps37
    go_wp2_with fail
    go_ret
    exact ⟨rfl, rfl⟩
  · have h45 := @run_callFunc_extern Tryd.prog 45 _ Extern.ReflectliteType.typeOf Tryd.func45 (by kernel_rfl) (by kernel_rfl) (by kernel_rfl) (by kernel_rfl)
    have h84 := @run_callFunc_extern Tryd.prog 84 _ fnComp Tryd.func84 (by kernel_rfl) (by kernel_rfl) (by kernel_rfl) (by kernel_rfl)
    have f1 := rl_typeOf24
    have f2 := rl_comp24
    have m1 := meth_comp
    have HC := Lib.hid (is_in hv hne e)
    obtain ⟨t0, v0, rfl⟩ : ∃ t0 v0, v = .iface t0 v0 := by
      cases hv with
      | none => exact absurd rfl hne
      | num e => exact ⟨_, _, rfl⟩
      | fault _ _ _ _ => exact ⟨_, _, rfl⟩
    clear hv hne
    go_enter Tryd.func37, Tryd.ntmps37
    go_wp2_with (go_at_call 46; with_reducible refine HC.out.mono ?_; rintro r w1 ⟨rfl, hw⟩; subst hw)
    go_ret
    exact ⟨rfl, rfl⟩

set_option maxRecDepth 100000 in
theorem is1_any {w : World} {E G : Nat} {v : Value} {path : List ByteArray} {n : Option Int} {e : Int} (hE : w.cell? ⟨E, 0, none⟩ = some v) (hG : w.cell? ⟨G, 0, none⟩ = some (.int .i64 e)) (hv : ErrAt w v path n) :
    Calls Tryd.prog 36 #[.pointer (some ⟨E, 0, none⟩), .pointer (some ⟨G, 0, none⟩)] w fun r w' => r = .returned (.bool (n == some e)) ∧ w' = w := by
  have HA := Lib.hid (Is_err hv e)
  clear hv
  go_enter Tryd.func36, Tryd.ntmps36
  go_wp2_with (go_at_call 37; with_reducible refine HA.out.mono ?_; rintro r w1 ⟨rfl, hw⟩; subst hw)
  go_ret
  exact ⟨rfl, rfl⟩

set_option maxRecDepth 100000 in
theorem found_is {w : World} {E G : Nat} {v : Value} {path : List ByteArray} {n : Option Int} {e : Int} (hE : w.cell? ⟨E, 0, none⟩ = some v) (hG : w.cell? ⟨G, 0, none⟩ = some (.int .i64 e)) (hv : ErrAt w v path n) :
    Calls Tryd.prog 35 #[.func (.func 36) #[] #[.pointer (some ⟨E, 0, none⟩), .pointer (some ⟨G, 0, none⟩)]] w fun r w' => r = .returned (.bool (n == some e)) ∧ Below w.heap.size w w' := by
  have hmf : ∀ (fn : Fn) (first cap : Array Value) (w : World), (Instr.makeFunc fn first cap).run Tryd.prog w = .ok (.func fn first cap) w := fun _ _ _ _ => rfl
  have hb : Below w.heap.size w (w.alloc (.cells #[.bool false] 4)) := (Below.refl _ _).alloc (Nat.le_refl _) _
  have HC := Lib.hid (is1_any ((hb.cell (p := ⟨E, 0, none⟩) (World.block_lt_of_cell? w _ hE)).trans hE) ((hb.cell (p := ⟨G, 0, none⟩) (World.block_lt_of_cell? w _ hG)).trans hG) (hv.later hb))
  have hR := Holds.new w 4 #[.bool false]
  clear hE hG hv hb
  generalize (n == some e) = ans at *
  have r0 := hR.cell 0
  have z0 := hR.frozen 0
  go_enter_defers Tryd.func35, Tryd.ntmps35
  go_wp2_with (go_at_call 36; with_reducible refine HC.out.mono ?_; rintro r w1 ⟨rfl, hw⟩; subst hw)
  refine leaves_cons (f := 44) (args := #[.pointer (some ⟨w.heap.size, 0, none⟩)]) (by simp) (by simp [go_sem]) ?_
  refine (found1_idle ⟨w.heap.size, 0, none⟩ _).mono ?_
  rintro e u' w'' ⟨rfl, rfl, rfl⟩
  simp [Leaves, settle, results, Tryd.results35, go_sem]
  exact (Below.refl _ _).alloc (Nat.le_refl _) _

/-- fault.Is. -/
def isP (v : Value) (n : Option Int) (e : Int) : Bool := if e = 0 then (match v with | .nilIface => true | _ => false) else n == some e
set_option maxRecDepth 100000 in
theorem fIs_any {w : World} {v : Value} {path : List ByteArray} {n : Option Int} (hv : ErrAt w v path n) (e : Int) :
    Calls Tryd.prog 11 #[v, .int .i64 e] w fun r w' => r = .returned (.bool (isP v n e)) ∧ Below w.heap.size w w' := by
  have hmf : ∀ (fn : Fn) (first cap : Array Value) (w : World), (Instr.makeFunc fn first cap).run Tryd.prog w = .ok (.func fn first cap) w := fun _ _ _ _ => rfl
  have hb : Below w.heap.size w ((w.alloc (.cells #[v] 26)).alloc (.cells #[.int .i64 e] 24)) := ((Below.refl _ _).alloc (Nat.le_refl _) _).alloc (by simp) _
  have hE : ((w.alloc (.cells #[v] 26)).alloc (.cells #[.int .i64 e] 24)).cell? ⟨w.heap.size, 0, none⟩ = some v := ((Holds.new w 26 #[v]).moves ((Moves.refl nobody _).alloc (.cells #[.int .i64 e] 24)) (fun h => h)).cell 0
  have hG := (Holds.new (w.alloc (.cells #[v] 26)) 24 #[.int .i64 e]).cell 0
  rw [World.size_alloc] at hG
  have HC := Lib.hid (found_is hE hG (hv.later hb))
  have HB := Lib.hid hb
  have hkind : (v = .nilIface ∨ ∃ t u, v = .iface t u) := by
    cases hv with
    | none => exact .inl rfl
    | num e => exact .inr ⟨_, _, rfl⟩
    | fault _ _ _ _ => exact .inr ⟨_, _, rfl⟩
  clear hv hb hE hG
  by_cases he : e = 0
  · subst he
    rcases hkind with rfl | ⟨t0, u0, rfl⟩
    · go_enter Tryd.func11, Tryd.ntmps11
      go_wp2_with fail
      go_ret
      exact ⟨rfl, HB.out⟩
    · go_enter Tryd.func11, Tryd.ntmps11
      go_wp2_with fail
      go_ret
      exact ⟨rfl, HB.out⟩
  · have hq : (e == 0) = false := by simpa using he
    have hi : Hid (isP v n e = (n == some e)) := if_neg he
    rw [hi.out]
    clear hi he
    generalize (n == some e) = ans at *
    rcases hkind with rfl | ⟨t0, u0, rfl⟩
    all_goals
      go_enter Tryd.func11, Tryd.ntmps11
      go_wp2_with (go_at_call 35; with_reducible refine HC.out.mono ?_; rintro r w1 ⟨rfl, b1⟩)
      go_ret
      exact ⟨rfl, HB.out.trans (b1.mono HB.out.size)⟩

/-! ### At, Of, Code, Reason -/
theorem fAt_nil (x : ByteArray) (w : World) : Calls Tryd.prog 21 #[.string x, .nilIface] w fun r w' => r = .returned .nilIface ∧ w' = w := by
  go_enter Tryd.func21, Tryd.ntmps21
  go_wp2_with fail
  go_ret
  exact ⟨rfl, rfl⟩
theorem fAt_some (x : ByteArray) (t : TypeId) (u : Value) (w : World) : Calls Tryd.prog 21 #[.string x, .iface t u] w fun r w' => r = .returned (.iface 37 (.pointer (some ⟨w.heap.size, 0, none⟩))) ∧ w' = w.alloc (.cells #[.string x, .iface t u] 43) := by
  go_enter Tryd.func21, Tryd.ntmps21
  go_wp2_with fail
  go_ret
  exact ⟨rfl, rfl⟩
/-- At of what is an error. -/
theorem fAt_any {w : World} {v : Value} {path : List ByteArray} {n : Option Int} (hv : ErrAt w v path n) (hne : v ≠ .nilIface) (x : ByteArray) : Calls Tryd.prog 21 #[.string x, v] w fun r w' => ∃ v', r = .returned v' ∧ ErrAt w' v' (x :: path) n ∧ v' ≠ .nilIface ∧ Below w.heap.size w w' := by
  obtain ⟨t0, v0, rfl⟩ : ∃ t0 v0, v = .iface t0 v0 := by
    cases hv with
    | none => exact absurd rfl hne
    | num e => exact ⟨_, _, rfl⟩
    | fault _ _ _ _ => exact ⟨_, _, rfl⟩
  refine (fAt_some x t0 v0 w).mono fun r w' ⟨h1, h2⟩ => ⟨_, h1, ?_, by simp, ?_⟩
  · subst h2
    have hN := Holds.new w 43 #[.string x, .iface t0 v0]
    exact .fault (by simp) (hN.cell 0) (hN.cell 1) (hv.later ((Below.refl _ _).alloc (Nat.le_refl _) _))
  · rw [h2]; exact (Below.refl _ _).alloc (Nat.le_refl _) _
theorem fOf_zero (x : ByteArray) (w : World) : Calls Tryd.prog 33 #[.string x, .int .i64 0] w fun r w' => r = .returned .nilIface ∧ w' = w := by
  go_enter Tryd.func33, Tryd.ntmps33
  go_wp2_with fail
  go_ret
  exact ⟨rfl, rfl⟩
theorem fOf_any (x : ByteArray) (e : Int) (he : e ≠ 0) (w : World) : Calls Tryd.prog 33 #[.string x, .int .i64 e] w fun r w' => ∃ v', r = .returned v' ∧ ErrAt w' v' [x] (some e) ∧ v' ≠ .nilIface ∧ Below w.heap.size w w' := by
  have hq : (e == 0) = false := by simpa using he
  have HA := Lib.hid (fAt_any (ErrAt.num (w := w) e) (by simp) x)
  go_enter Tryd.func33, Tryd.ntmps33
  go_wp2_with (go_at_call 21; with_reducible refine HA.out.mono ?_; rintro r w1 ⟨v', rfl, hv, hn, hb⟩)
  go_ret
  exact ⟨v', rfl, hv, hn, hb⟩
/-- The number that Code gives. -/
def codeP (v : Value) (n : Option Int) : Int := match v with | .nilIface => 0 | _ => n.getD 14
set_option maxRecDepth 100000 in
theorem fCode_any {w : World} {v : Value} {path : List ByteArray} {n : Option Int} (hg : TypeOfError w) (hv : ErrAt w v path n) : Calls Tryd.prog 10 #[v] w fun r w' => r = .returned (.int .i64 (codeP v n)) ∧ Below w.heap.size w w' := by
  have HN := Lib.hid (number_any hg hv)
  have hkind : (v = .nilIface ∨ ∃ t u, v = .iface t u) := by
    cases hv with
    | none => exact .inl rfl
    | num e => exact .inr ⟨_, _, rfl⟩
    | fault _ _ _ _ => exact .inr ⟨_, _, rfl⟩
  clear hv hg
  rcases hkind with rfl | ⟨t0, u0, rfl⟩
  · go_enter Tryd.func10, Tryd.ntmps10
    go_wp2_with fail
    go_ret
    exact ⟨rfl, Below.refl _ _⟩
  · cases n with
    | none =>
      go_enter Tryd.func10, Tryd.ntmps10
      go_wp2_with (go_at_call 34; with_reducible refine HN.out.mono ?_; rintro r w1 ⟨rfl, b1⟩)
      go_ret
      exact ⟨rfl, b1⟩
    | some e =>
      go_enter Tryd.func10, Tryd.ntmps10
      go_wp2_with (go_at_call 34; with_reducible refine HN.out.mono ?_; rintro r w1 ⟨rfl, b1⟩)
      go_ret
      exact ⟨rfl, b1⟩
end Go.Proofs.YtambeipbpemlkaaDoor
