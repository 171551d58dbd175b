/- Layer 14: RecipeKeeps for every input. -/
import Derived.Test.YtlalkpgipenkaaaRcM
namespace Go.Proofs.Ytlalkpgipenkaaa
open Go.RowKit

set_option maxRecDepth 100000 in
theorem keeps_any {w : World} {x0 x1 x2 : Nat} (hx0 : x0 ≤ 255) (hx1 : x1 ≤ 255) (hx2 : x2 ≤ 255) (d : ByteArray) (hd : d.size ≤ 9223372036854775807) {v : Value} {l : List OpR} (hv : OpsAt w v l) (hcap : ∀ o n c, v = .slice o n c → n ≤ c ∧ c ≤ 9223372036854775807) (hlm : l.length ≤ 9223372036854775807) (hsm : ∀ o ∈ l, o.s.length ≤ 9223372036854775807) :
    Calls Try.prog 5 #[.agg #[.int .u8 x0, .int .u8 x1, .int .u8 x2], .string d, v] w fun e w' => e = .returned (.bool true) ∧ Below w.heap.size w w' := by
  by_cases hm : fewP14 l = true ∧ d.size ≤ 100
  · have hf := of_decide_eq_true hm.1
    exact keeps_main hx0 hx1 hx2 d hm.2 hv hcap hf.1 hf.2
  · have b0 : Below w.heap.size w (w.alloc (.cells #[.int .u8 x0, .int .u8 x1, .int .u8 x2] 44)) := (Below.refl _ _).alloc (Nat.le_refl _) _
    have hF := few14_any (hv.below b0) hsm hlm
    have HA := Lib.hid awake14_any
    have HB0 := Lib.hid b0
    obtain ⟨W0, hW0⟩ : ∃ W0, Hid (W0 = w.alloc (.cells #[.int .u8 x0, .int .u8 x1, .int .u8 x2] 44)) := ⟨_, Lib.hid rfl⟩
    rw [← hW0.out] at hF HB0
    obtain ⟨ao, cap, rfl, _⟩ := hv
    have hd1 : fewP14 l = true → decide ((d.size : Int) > 100) = true := fun h => decide_eq_true (by
      have : ¬ d.size ≤ 100 := fun h2 => hm ⟨h, h2⟩
      omega)
    cases hf : fewP14 l with
    | false =>
      rw [hf] at hF
      have HF := Lib.hid hF
      clear hF hf hd1 hm b0 hcap hsm
      generalize l.length = n at *
      go_enter Try.func5, Try.ntmps5
      go_wp2_with (first
        | (go_at_call 20; rw [← hW0.out]; (with_reducible refine HF.out.mono ?_); rintro e w' ⟨rfl, hw⟩; have hw := hw.symm; subst hw)
        | (go_at_call 21; (with_reducible refine (HA.out _).mono ?_); rintro e w1 ⟨rfl, b1⟩))
      go_ret
      exact ⟨rfl, HB0.out.trans (b1.mono HB0.out.size)⟩
    | true =>
      rw [hf] at hF
      have HF := Lib.hid hF
      have q1 := hd1 hf
      clear hF hf hd1 hm b0 hcap hsm
      generalize l.length = n at *
      go_enter Try.func5, Try.ntmps5
      go_wp2_with (first
        | (go_at_call 20; rw [← hW0.out]; (with_reducible refine HF.out.mono ?_); rintro e w' ⟨rfl, hw⟩; have hw := hw.symm; subst hw)
        | (go_at_call 21; (with_reducible refine (HA.out _).mono ?_); rintro e w1 ⟨rfl, b1⟩))
      go_ret
      exact ⟨rfl, HB0.out.trans (b1.mono HB0.out.size)⟩
end Go.Proofs.Ytlalkpgipenkaaa
