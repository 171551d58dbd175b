/- Layer 21: the law KeysApart, for all arguments. -/
import Derived.Test.YtemhifeddejkjaaKy8
namespace Go.Proofs.Ytemhifeddejkjaa
open Go.RowKit

set_option maxRecDepth 100000 in
theorem KeysApart_any {w : World} {v : Value} {l : List MakeR} (hM : MakesAt w v l) (hlm : l.length ≤ maxLen) (hls : ∀ x ∈ l, x.s.length ≤ maxLen) (x0 x1 x2 y0 y1 y2 : Int) :
    Calls Try.prog 4 #[v, .agg #[.int .i64 x0, .int .i64 x1, .int .i64 x2], .agg #[.int .i64 y0, .int .i64 y1, .int .i64 y2]] w fun e w' => e = .returned (.bool true) ∧ Below w.heap.size w w' := by
  unfold maxLen at hlm hls
  cases hf : fewP l 20 with
  | true =>
    obtain ⟨g1, g2⟩ := of_decide_eq_true hf
    exact KeysApart_small hM (by omega) g2 x0 x1 x2 y0 y1 y2
  | false =>
    have b0 : Below w.heap.size w ((w.alloc (.cells #[.int .i64 x0, .int .i64 x1, .int .i64 x2] 23)).alloc (.cells #[.int .i64 y0, .int .i64 y1, .int .i64 y2] 23)) := ((Below.refl _ _).alloc (Nat.le_refl _) _).alloc (by simp) _
    have HF := few_any (makes_belowK hM b0) 20 hls hlm
    rw [hf] at HF
    have HF := Lib.hid HF
    have HA := Lib.hid awake21_any
    have HB := Lib.hid b0
    obtain ⟨ao, cap, rfl, _⟩ := hM
    clear hls hf b0
    go_enter Try.func4, Try.ntmps4
    go_wp2_with (first
      | (go_at_call 5; with_reducible refine HF.out.mono ?_; rintro e w1 ⟨rfl, hw⟩; have hw := hw.symm; subst hw)
      | (go_at_call 6; (with_reducible refine (HA.out _).mono ?_); rintro e w8 ⟨rfl, b8⟩))
    go_ret
    exact ⟨rfl, HB.out.trans (b8.mono HB.out.size)⟩
end Go.Proofs.Ytemhifeddejkjaa
