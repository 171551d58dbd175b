/- At, Of, Code. -/
import Derived.Test.YtjphlhehhigpjaaDoorFlt4
namespace Go.Proofs.YtjphlhehhigpjaaDoor
open Go.RowKit Go.Extern.Stop Go.Stop Go.Extern

/-- The number that Code gives. -/
def codeP (v : Value) (n : Option Int) : Int := match v with | .nilIface => 0 | _ => n.getD 14
set_option maxRecDepth 100000 in
theorem fCode_any {w : World} {v : Value} {path : List ByteArray} {n : Option Int} (hg : TypeOfError w) (hv : ErrAt w v path n) : Calls Tryd.prog 26 #[v] w fun r w' => r = .returned (.int .i64 (codeP v n)) ∧ Below w.heap.size w w' := by
  have HN := Lib.hid (fnumber_any hg hv)
  have hkind : (v = .nilIface ∨ ∃ t u, v = .iface t u) := by
    cases hv with
    | none => exact .inl rfl
    | num e => exact .inr ⟨_, _, rfl⟩
    | fault _ _ _ _ => exact .inr ⟨_, _, rfl⟩
  clear hv hg
  rcases hkind with rfl | ⟨t0, u0, rfl⟩
  · go_enter Tryd.func26, Tryd.ntmps26
    go_wp2_with fail
    go_ret
    exact ⟨rfl, Below.refl _ _⟩
  · cases n with
    | none =>
      go_enter Tryd.func26, Tryd.ntmps26
      go_wp2_with (go_at_call 42; with_reducible refine HN.out.mono ?_; rintro r w1 ⟨rfl, b1⟩)
      go_ret
      exact ⟨rfl, b1⟩
    | some e =>
      go_enter Tryd.func26, Tryd.ntmps26
      go_wp2_with (go_at_call 42; with_reducible refine HN.out.mono ?_; rintro r w1 ⟨rfl, b1⟩)
      go_ret
      exact ⟨rfl, b1⟩
end Go.Proofs.YtjphlhehhigpjaaDoor
