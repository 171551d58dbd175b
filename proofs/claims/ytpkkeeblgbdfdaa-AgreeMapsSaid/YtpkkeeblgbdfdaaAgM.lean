/- Layer 32: Check. -/
import Derived.Test.YtpkkeeblgbdfdaaAgL
import Derived.Test.YtpkkeeblgbdfdaaFltC
namespace Go.Proofs.Ytpkkeeblgbdfdaa
open Go.RowKit Go.Maps Go.WideMaps

def agreeS : ByteArray := ⟨#[97, 103, 114, 101, 101]⟩
set_option maxHeartbeats 2000000 in
set_option maxRecDepth 100000 in
theorem agCheck_ok {w : World} {v : Value} {l : List EvV} (h : EventsAt w v l) (hl : l.length ≤ 900) (ho : ∀ x ∈ l, ∀ u ∈ x.row.toList, CellOk u) (hw : (wrongW (SA l) l).size = 0) :
    Calls Try.prog 4 #[v] w fun e w' => e = .returned .nilIface ∧ Below w.heap.size w w' := by
  have HW := Lib.hid (agWrong_any h hl ho)
  have hb : wrongW (SA l) l = ⟨#[]⟩ := by
    generalize wrongW (SA l) l = b at *
    cases b with
    | mk d =>
      congr
      exact Array.eq_empty_of_size_eq_zero hw
  rw [hb] at HW
  obtain ⟨ao, cap, rfl, _⟩ := h
  clear ho hw hb
  generalize wrongI (SA l) l = wi at *
  go_enter Try.func4, Try.ntmps4
  go_wp2_with (first
    | (go_at_call 8; (with_reducible refine HW.out.mono ?_); rintro e w1 ⟨rfl, b1⟩; have B1 := Lib.hid b1; clear b1))
  go_ret
  exact ⟨rfl, B1.out⟩
set_option maxHeartbeats 2000000 in
set_option maxRecDepth 100000 in
theorem agCheck_bad {w : World} {v : Value} {l : List EvV} (h : EventsAt w v l) (hl : l.length ≤ 900) (ho : ∀ x ∈ l, ∀ u ∈ x.row.toList, CellOk u) (hw : (wrongW (SA l) l).size ≠ 0) :
    Calls Try.prog 4 #[v] w fun e w' => ∃ t u, e = .returned (.iface t u) ∧ ErrAt w' (.iface t u) [agreeS, wrongW (SA l) l] (some 14) ∧ Below w.heap.size w w' := by
  have HW := Lib.hid (agWrong_any h hl ho)
  have hb := empty32 hw
  obtain ⟨ao, cap, rfl, _⟩ := h
  clear ho hw
  generalize wrongI (SA l) l = wi at *
  generalize wrongW (SA l) l = ww at *
  have HO : Hid (∀ W, Calls Try.prog 10 #[.string ww, .int .i64 14] W fun r w' => ∃ t u, r = .returned (.iface t u) ∧ ErrAt w' (.iface t u) [ww] (some 14) ∧ Below W.heap.size W w') := fun W => (fOf_any ww 14 (by decide) W).mono fun r w' ⟨v', h1, h2, h3, h4⟩ => by
    cases h2 with
    | fault g1 g2 g3 g4 => exact ⟨_, _, h1, .fault g1 g2 g3 g4, h4⟩
  have HA : Hid (∀ (W : World) (t : TypeId) (v : Value), ErrAt W (.iface t v) [ww] (some 14) → Calls Try.prog 9 #[.string agreeS, .iface t v] W fun r w' => ∃ t v, r = .returned (.iface t v) ∧ ErrAt w' (.iface t v) [agreeS, ww] (some 14) ∧ Below W.heap.size W w') := fun W t v hv => (fAt_any hv (by simp) agreeS).mono fun r w' ⟨v', h1, h2, h3, h4⟩ => by
    cases h2 with
    | fault g1 g2 g3 g4 => exact ⟨_, _, h1, .fault g1 g2 g3 g4, h4⟩
  unfold agreeS at HA ⊢
  go_enter Try.func4, Try.ntmps4
  go_wp2_with (first
    | (go_at_call 8; (with_reducible refine HW.out.mono ?_); rintro e w1 ⟨rfl, b1⟩; have B1 := Lib.hid b1; clear b1)
    | (go_at_call 10; (with_reducible refine (HO.out _).mono ?_); rintro e w2 ⟨t2, u2, rfl, e2, b2⟩; have B2 := Lib.hid (B1.out.trans (b2.mono B1.out.size)); have E2 := Lib.hid e2; clear b2 e2)
    | (go_at_call 9; (with_reducible refine (HA.out _ _ _ E2.out).mono ?_); rintro e w3 ⟨t3, u3, rfl, e3, b3⟩; have B3 := Lib.hid (B2.out.trans (b3.mono B2.out.size)); have E3 := Lib.hid e3; clear b3 e3))
  go_ret
  exact ⟨t3, u3, rfl, E3.out, B3.out⟩
end Go.Proofs.Ytpkkeeblgbdfdaa
