/- At, Of, Code. -/
import Derived.Test.YtpiklkbjfpfejaaGreatDoorFlt4
namespace Go.Proofs.YtpiklkbjfpfejaaGreatDoor
open Go.RowKit Go.Extern.Stop Go.Stop Go.Extern

theorem fAt_nil (x : ByteArray) (w : World) : Calls Tryz.prog 19 #[.string x, .nilIface] w fun r w' => r = .returned .nilIface ∧ w' = w := by
  go_enter Tryz.func19, Tryz.ntmps19
  go_wp2_with fail
  go_ret
  exact ⟨rfl, rfl⟩
theorem fAt_some (x : ByteArray) (t : TypeId) (u : Value) (w : World) : Calls Tryz.prog 19 #[.string x, .iface t u] w fun r w' => r = .returned (.iface 78 (.pointer (some ⟨w.heap.size, 0, none⟩))) ∧ w' = w.alloc (.cells #[.string x, .iface t u] 80) := by
  go_enter Tryz.func19, Tryz.ntmps19
  go_wp2_with fail
  go_ret
  exact ⟨rfl, rfl⟩
/-- At of what is an error. -/
theorem fAt_any {w : World} {v : Value} {path : List ByteArray} {n : Option Int} (hv : ErrAt w v path n) (hne : v ≠ .nilIface) (x : ByteArray) : Calls Tryz.prog 19 #[.string x, v] w fun r w' => ∃ v', r = .returned v' ∧ ErrAt w' v' (x :: path) n ∧ v' ≠ .nilIface ∧ Below w.heap.size w w' := by
  obtain ⟨t0, v0, rfl⟩ : ∃ t0 v0, v = .iface t0 v0 := by
    cases hv with
    | none => exact absurd rfl hne
    | num e => exact ⟨_, _, rfl⟩
    | fault _ _ _ _ => exact ⟨_, _, rfl⟩
  refine (fAt_some x t0 v0 w).mono fun r w' ⟨h1, h2⟩ => ⟨_, h1, ?_, by simp, ?_⟩
  · subst h2
    have hN := Holds.new w 80 #[.string x, .iface t0 v0]
    exact .fault (by simp) (hN.cell 0) (hN.cell 1) (hv.later ((Below.refl _ _).alloc (Nat.le_refl _) _))
  · rw [h2]; exact (Below.refl _ _).alloc (Nat.le_refl _) _
theorem fOf_zero (x : ByteArray) (w : World) : Calls Tryz.prog 15 #[.string x, .int .i64 0] w fun r w' => r = .returned .nilIface ∧ w' = w := by
  go_enter Tryz.func15, Tryz.ntmps15
  go_wp2_with fail
  go_ret
  exact ⟨rfl, rfl⟩
theorem fOf_any (x : ByteArray) (e : Int) (he : e ≠ 0) (w : World) : Calls Tryz.prog 15 #[.string x, .int .i64 e] w fun r w' => ∃ v', r = .returned v' ∧ ErrAt w' v' [x] (some e) ∧ v' ≠ .nilIface ∧ Below w.heap.size w w' := by
  have hq : (e == 0) = false := by simpa using he
  have HA := Lib.hid (fAt_any (ErrAt.num (w := w) e) (by simp) x)
  go_enter Tryz.func15, Tryz.ntmps15
  go_wp2_with (go_at_call 19; with_reducible refine HA.out.mono ?_; rintro r w1 ⟨v', rfl, hv, hn, hb⟩)
  go_ret
  exact ⟨v', rfl, hv, hn, hb⟩
/-- The number that Code gives. -/
def codeP (v : Value) (n : Option Int) : Int := match v with | .nilIface => 0 | _ => n.getD 14
set_option maxRecDepth 100000 in
theorem fCode_any {w : World} {v : Value} {path : List ByteArray} {n : Option Int} (hg : TypeOfError w) (hv : ErrAt w v path n) : Calls Tryz.prog 27 #[v] w fun r w' => r = .returned (.int .i64 (codeP v n)) ∧ Below w.heap.size w w' := by
  have HN := Lib.hid (fnumber_any hg hv)
  have hkind : (v = .nilIface ∨ ∃ t u, v = .iface t u) := by
    cases hv with
    | none => exact .inl rfl
    | num e => exact .inr ⟨_, _, rfl⟩
    | fault _ _ _ _ => exact .inr ⟨_, _, rfl⟩
  clear hv hg
  rcases hkind with rfl | ⟨t0, u0, rfl⟩
  · go_enter Tryz.func27, Tryz.ntmps27
    go_wp2_with fail
    go_ret
    exact ⟨rfl, Below.refl _ _⟩
  · cases n with
    | none =>
      go_enter Tryz.func27, Tryz.ntmps27
      go_wp2_with (go_at_call 50; with_reducible refine HN.out.mono ?_; rintro r w1 ⟨rfl, b1⟩)
      go_ret
      exact ⟨rfl, b1⟩
    | some e =>
      go_enter Tryz.func27, Tryz.ntmps27
      go_wp2_with (go_at_call 50; with_reducible refine HN.out.mono ?_; rintro r w1 ⟨rfl, b1⟩)
      go_ret
      exact ⟨rfl, b1⟩
end Go.Proofs.YtpiklkbjfpfejaaGreatDoor
