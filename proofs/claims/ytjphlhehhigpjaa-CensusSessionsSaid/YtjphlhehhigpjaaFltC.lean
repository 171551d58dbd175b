/- An error in memory; At, Of. -/
import Derived.Test.YtjphlhehhigpjaaMem
import Derived.LaidEql
import Derived.Stop.Asserts
import Derived.RowKitTokens
namespace Go.Proofs.Ytjphlhehhigpjaa
open Go.RowKit Go.Extern.Stop Go.Stop Go.Extern

/-- An error in memory: its locations and its number, if it has one. -/
inductive ErrAt (w : World) : Value → List ByteArray → Option Int → Prop
  | none : ErrAt w .nilIface [] none
  | num (e : Int) : ErrAt w (.iface 74 (.int .i64 e)) [] (some e)
  | fault {b : Nat} {x : ByteArray} {v : Value} {path : List ByteArray} {n : Option Int} : b < w.heap.size → w.cell? ⟨b, 0, none⟩ = some (.string x) → w.cell? ⟨b, 1, none⟩ = some v → ErrAt w v path n → ErrAt w (.iface 80 (.pointer (some ⟨b, 0, none⟩))) (x :: path) n
theorem ErrAt.later {w w' : World} {v : Value} {path : List ByteArray} {n : Option Int} (h : ErrAt w v path n) (hb : Below w.heap.size w w') : ErrAt w' v path n := by
  induction h with
  | none => exact .none
  | num e => exact .num e
  | @fault b x v path n h1 h2 h3 _ ih => exact .fault (Nat.lt_of_lt_of_le h1 hb.size) ((hb.cell (p := ⟨b, 0, Option.none⟩) h1).trans h2) ((hb.cell (p := ⟨b, 1, Option.none⟩) h1).trans h3) ih

theorem ErrAt.same {w : World} {v : Value} {path : List ByteArray} {n : Option Int} (h : ErrAt w v path n) : ∀ {path' : List ByteArray} {n' : Option Int}, ErrAt w v path' n' → path = path' ∧ n = n' := by
  induction h with
  | none => intro _ _ k; cases k; exact ⟨rfl, rfl⟩
  | num e => intro _ _ k; cases k; exact ⟨rfl, rfl⟩
  | @fault b x v path n h1 h2 h3 _ ih =>
    intro _ _ k
    cases k with
    | fault k1 k2 k3 k4 =>
      have e2 := h2.symm.trans k2
      have e3 := h3.symm.trans k3
      simp only [Option.some.injEq, Value.string.injEq] at e2 e3
      subst e2 e3
      obtain ⟨rfl, rfl⟩ := ih k4
      exact ⟨rfl, rfl⟩
open Classical in
/-- How many locations. -/
noncomputable def depthAt (w : World) (v : Value) : Nat := if h : ∃ q : List ByteArray × Option Int, ErrAt w v q.1 q.2 then (Classical.choose h).1.length else 0
theorem ErrAt.depth {w : World} {v : Value} {path : List ByteArray} {n : Option Int} (h : ErrAt w v path n) : depthAt w v = path.length := by
  have hx : ∃ q : List ByteArray × Option Int, ErrAt w v q.1 q.2 := ⟨(path, n), h⟩
  unfold depthAt
  rw [dif_pos hx, ((Classical.choose_spec hx).same h).1]


theorem fAt_nil (x : ByteArray) (w : World) : Calls Try.prog 35 #[.string x, .nilIface] w fun r w' => r = .returned .nilIface ∧ w' = w := by
  go_enter Try.func35, Try.ntmps35
  go_wp2_with fail
  go_ret
  exact ⟨rfl, rfl⟩
theorem fAt_some (x : ByteArray) (t : TypeId) (u : Value) (w : World) : Calls Try.prog 35 #[.string x, .iface t u] w fun r w' => r = .returned (.iface 80 (.pointer (some ⟨w.heap.size, 0, none⟩))) ∧ w' = w.alloc (.cells #[.string x, .iface t u] 82) := by
  go_enter Try.func35, Try.ntmps35
  go_wp2_with fail
  go_ret
  exact ⟨rfl, rfl⟩
/-- At of what is an error. -/
theorem fAt_any {w : World} {v : Value} {path : List ByteArray} {n : Option Int} (hv : ErrAt w v path n) (hne : v ≠ .nilIface) (x : ByteArray) : Calls Try.prog 35 #[.string x, v] w fun r w' => ∃ v', r = .returned v' ∧ ErrAt w' v' (x :: path) n ∧ v' ≠ .nilIface ∧ Below w.heap.size w w' := by
  obtain ⟨t0, v0, rfl⟩ : ∃ t0 v0, v = .iface t0 v0 := by
    cases hv with
    | none => exact absurd rfl hne
    | num e => exact ⟨_, _, rfl⟩
    | fault _ _ _ _ => exact ⟨_, _, rfl⟩
  refine (fAt_some x t0 v0 w).mono fun r w' ⟨h1, h2⟩ => ⟨_, h1, ?_, by simp, ?_⟩
  · subst h2
    have hN := Holds.new w 82 #[.string x, .iface t0 v0]
    exact .fault (by simp) (hN.cell 0) (hN.cell 1) (hv.later ((Below.refl _ _).alloc (Nat.le_refl _) _))
  · rw [h2]; exact (Below.refl _ _).alloc (Nat.le_refl _) _
theorem fOf_zero (x : ByteArray) (w : World) : Calls Try.prog 36 #[.string x, .int .i64 0] w fun r w' => r = .returned .nilIface ∧ w' = w := by
  go_enter Try.func36, Try.ntmps36
  go_wp2_with fail
  go_ret
  exact ⟨rfl, rfl⟩
theorem fOf_any (x : ByteArray) (e : Int) (he : e ≠ 0) (w : World) : Calls Try.prog 36 #[.string x, .int .i64 e] w fun r w' => ∃ v', r = .returned v' ∧ ErrAt w' v' [x] (some e) ∧ v' ≠ .nilIface ∧ Below w.heap.size w w' := by
  have hq : (e == 0) = false := by simpa using he
  have HA := Lib.hid (fAt_any (ErrAt.num (w := w) e) (by simp) x)
  go_enter Try.func36, Try.ntmps36
  go_wp2_with (go_at_call 35; with_reducible refine HA.out.mono ?_; rintro r w1 ⟨v', rfl, hv, hn, hb⟩)
  go_ret
  exact ⟨v', rfl, hv, hn, hb⟩
end Go.Proofs.Ytjphlhehhigpjaa
