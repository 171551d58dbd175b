/- Layer 32: the walk of AgreeBegins. -/
import Derived.Test.YtkajajekjpkekaaAgR0
import Derived.Test.YtkajajekjpkekaaAgN
import Derived.Test.YtkajajekjpkekaaAgE
namespace Go.Proofs.Ytkajajekjpkekaa
open Go.RowKit

set_option maxRecDepth 100000 in
/-- A slice's beginning reads as the list's. -/
theorem slice_begin {w : World} {ao : Option Addr} {cap : Nat} {l : List EvV} (h : EventsAt w (.slice ao l.length cap) l) (hc : l.length ≤ cap) (k : Nat) (hk : k ≤ l.length) :
    ∃ ao', (∀ W, (Instr.slice 22 (.slice ao l.length cap) none (some (.int .i64 (k : Int))) none).run Try.prog W = .ok (.slice ao' k cap) W) ∧ EventsAt w (.slice ao' k cap) (l.take k) := by
  by_cases hl : l = []
  · subst hl
    have hk0 : k = 0 := by simpa using hk
    subst hk0
    refine ⟨if cap = 0 then ao else ao.map (·.add 0), fun W => ?_, ⟨_, cap, rfl, fun e => absurd rfl e⟩⟩
    have h := run_slice_h (P := Try.prog) (w := W) 22 ao 0 cap Try.underlying22 .i64 (0 : Int) (by omega) (by omega)
    have e2 : (sizeOf (Try.prog.elem 22)).run Try.prog W = .ok 34 W := by kernel_rfl
    have e3 := h
    rw [e2] at e3
    exact e3
  · obtain ⟨ao1, cap1, he, hcell⟩ := id h
    simp only [Value.slice.injEq, true_and] at he
    obtain ⟨b, off, e, _⟩ := hcell hl
    rw [← he.1] at e
    subst e
    exact ⟨_, fun W => slice_upto32 _ (fun a ha => ⟨b, off, (Option.some.inj ha).symm⟩) _ _ _ (by omega) _ rfl W, h.upto hk⟩
set_option maxHeartbeats 4000000 in
set_option maxRecDepth 100000 in
theorem AgreeBegins_any {w : World} {v : Value} {l : List EvV} (h : EventsAt w v l) (ho : ∀ x ∈ l, ∀ u ∈ x.row.toList, CellOk u) (hc : ∀ ao cap, v = .slice ao l.length cap → l.length ≤ cap) (n : Int) (hn : (Lit.int .u8 n).wf = true) :
    Calls Try.prog 5 #[v, .int .u8 n] w fun e w' => e = .returned (.bool true) ∧ Below w.heap.size w w' := by
  have HAw : Hid (∀ W, Calls Try.prog 6 #[] W fun e w' => e = .returned (.bool true) ∧ Below W.heap.size W w') := fun W => awake32_any W
  obtain ⟨ao, cap, rfl, hh⟩ := id h
  by_cases hlen : l.length ≤ 40
  case neg =>
    have q : decide ((l.length : Int) > 40) = true := decide_eq_true (by omega)
    clear ho hc h hh
    go_enter Try.func5, Try.ntmps5
    go_wp2_with (first | (go_at_call 6; (with_reducible refine (HAw.out _).mono ?_); rintro e w1 ⟨rfl, b1⟩; have B1 := Lib.hid b1; clear b1))
    go_ret
    exact ⟨rfl, B1.out⟩
  case pos =>
    have q : decide ((l.length : Int) > 40) = false := decide_eq_false (by omega)
    have hcap := hc _ _ rfl
    have hn2 : 0 ≤ n ∧ n ≤ 255 := by
      simp only [Lit.wf, Bool.and_eq_true, decide_eq_true_eq] at hn
      exact ⟨by simpa [IntKind.min, IntKind.signed] using hn.1, by simpa [IntKind.max, IntKind.signed, IntKind.bits] using hn.2⟩
    obtain ⟨k, hkd⟩ : ∃ k : Nat, k = n.toNat % (l.length + 1) := ⟨_, rfl⟩
    have hk : k ≤ l.length := by
      have := Nat.mod_lt n.toNat (show 0 < l.length + 1 by omega)
      omega
    obtain ⟨ao', hsl, hE'⟩ := slice_begin h hcap k hk
    have HW : Hid (∀ W, Below w.heap.size w W → Calls Try.prog 13 #[.slice ao l.length cap] W fun e w' => e = .returned (.tuple #[.int .i64 (wrongI (SA l) l), .string (wrongW (SA l) l)]) ∧ Below W.heap.size W w') := fun W hb => agWrong_any (h.below hb) (by omega) ho
    have ho' : ∀ x ∈ l.take k, ∀ u ∈ x.row.toList, CellOk u := fun x hx => ho x (List.mem_of_mem_take hx)
    have hl' : (l.take k).length ≤ 900 := by rw [List.length_take]; omega
    have HW2 : Hid (∀ W, Below w.heap.size w W → Calls Try.prog 13 #[.slice ao' k cap] W fun e w' => e = .returned (.tuple #[.int .i64 (wrongI (SA (l.take k)) (l.take k)), .string (wrongW (SA (l.take k)) (l.take k))]) ∧ Below W.heap.size W w') := fun W hb => agWrong_any (hE'.below hb) hl' ho'
    have HCk : Hid ((wrongW (SA (l.take k)) (l.take k)).size = 0 → ∀ W, Below w.heap.size w W → Calls Try.prog 11 #[.slice ao' k cap] W fun e w' => e = .returned .nilIface ∧ Below W.heap.size W w') := fun e W hb => agCheck_ok (hE'.below hb) hl' ho' e
    have hmod : n % ((l.length : Int) + 1) = (k : Int) := by
      rw [hkd]
      obtain ⟨m, hm⟩ := Int.eq_ofNat_of_zero_le hn2.1
      rw [hm, Int.toNat_natCast, Int.natCast_emod, Int.natCast_add]
      rfl
    have hU := wrong_upto hk
    generalize wrongI (SA l) l = wi at *
    generalize wrongW (SA l) l = ww at *
    generalize wrongI (SA (l.take k)) (l.take k) = pi at *
    generalize wrongW (SA (l.take k)) (l.take k) = pw at *
    have HMod := Lib.hid hmod
    have HSl := Lib.hid hsl
    have HU := Lib.hid hU
    have hll : ¬ ((l.length : Int) + 1 = 0) := by omega
    have hwr : wrap64 n = n := by unfold wrap64; omega
    clear ho hc h hh hE' ho' hl' hmod hsl hU hkd hn
    go_enter Try.func5, Try.ntmps5
    go_upto_region 4 with fail
    rw [HMod.out]
    clear HMod hll hwr hn2
    have hsl := HSl.out
    clear HSl
    rcases HU.out with ⟨i, hik, e1, e2, e3, e4⟩ | ⟨hwi, e2, e3⟩
    · subst e1 e2 e3
      have qe := empty32 e4
      have q1 : ((i : Int) == -1) = false := by rw [beq_eq_false_iff_ne]; omega
      have q2 : decide ((i : Int) ≥ (k : Int)) = false := decide_eq_false (by omega)
      clear e4 HCk HU
      go_wp2_with (first
        | (go_at_call 13; (with_reducible refine (HW.out _ (Below.refl _ _)).mono ?_); rintro e w1 ⟨rfl, b1⟩; have B1 := Lib.hid b1; clear b1 HW)
        | (go_at_call 13; (with_reducible refine (HW2.out _ B1.out).mono ?_); rintro e w2 ⟨rfl, b2⟩; have B2 := Lib.hid (B1.out.trans (b2.mono B1.out.size)); clear b2)
        | (go_at_call 6; (with_reducible refine (HAw.out _).mono ?_); rintro e w3 ⟨rfl, b3⟩; have B3 := Lib.hid (B2.out.trans (b3.mono B2.out.size)); clear b3))
      go_ret
      exact ⟨rfl, B3.out⟩
    · subst e2 e3
      have HCk := Lib.hid (HCk.out rfl)
      rcases hwi with e | ⟨i, hik, e⟩
      · subst e
        clear HU
        go_wp2_with (first
          | (go_at_call 13; (with_reducible refine (HW.out _ (Below.refl _ _)).mono ?_); rintro e w1 ⟨rfl, b1⟩; have B1 := Lib.hid b1; clear b1 HW)
          | (go_at_call 13; (with_reducible refine (HW2.out _ B1.out).mono ?_); rintro e w2 ⟨rfl, b2⟩; have B2 := Lib.hid (B1.out.trans (b2.mono B1.out.size)); clear b2)
          | (go_at_call 6; (with_reducible refine (HAw.out _).mono ?_); rintro e w3 ⟨rfl, b3⟩; have B3 := Lib.hid (B2.out.trans (b3.mono B2.out.size)); clear b3)
          | (go_at_call 11; (with_reducible refine (HCk.out _ B3.out).mono ?_); rintro e w4 ⟨rfl, b4⟩; have B4 := Lib.hid (B3.out.trans (b4.mono B3.out.size)); clear b4))
        go_ret
        exact ⟨rfl, B4.out⟩
      · subst e
        have q1 : ((i : Int) == -1) = false := by rw [beq_eq_false_iff_ne]; omega
        have q2 : decide ((i : Int) ≥ (k : Int)) = true := decide_eq_true (by omega)
        clear HU
        go_wp2_with (first
          | (go_at_call 13; (with_reducible refine (HW.out _ (Below.refl _ _)).mono ?_); rintro e w1 ⟨rfl, b1⟩; have B1 := Lib.hid b1; clear b1 HW)
          | (go_at_call 13; (with_reducible refine (HW2.out _ B1.out).mono ?_); rintro e w2 ⟨rfl, b2⟩; have B2 := Lib.hid (B1.out.trans (b2.mono B1.out.size)); clear b2)
          | (go_at_call 6; (with_reducible refine (HAw.out _).mono ?_); rintro e w3 ⟨rfl, b3⟩; have B3 := Lib.hid (B2.out.trans (b3.mono B2.out.size)); clear b3)
          | (go_at_call 11; (with_reducible refine (HCk.out _ B3.out).mono ?_); rintro e w4 ⟨rfl, b4⟩; have B4 := Lib.hid (B3.out.trans (b4.mono B3.out.size)); clear b4))
        go_ret
        exact ⟨rfl, B4.out⟩
end Go.Proofs.Ytkajajekjpkekaa
