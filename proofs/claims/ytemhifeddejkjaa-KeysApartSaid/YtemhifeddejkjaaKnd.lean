/- The document's Kind of a text. -/
import Derived.Test.YtemhifeddejkjaaConvB
import Derived.Laws.Concat
namespace Go.Proofs.Ytemhifeddejkjaa
open Go.RowKit

def kindL : List UInt8 → Nat
  | [] => 0
  | b :: _ => if b.toNat < 241 ∨ 250 < b.toNat then 0 else b.toNat - 240

set_option maxRecDepth 100000 in
theorem refKind_any (l : List UInt8) (w : World) : Calls Try.prog 61 #[.string (bs l)] w fun e w' => e = .returned (.int .i64 (kindL l : Int)) ∧ w' = w := by
  cases l with
  | nil =>
    rw [show bs ([] : List UInt8) = ⟨#[]⟩ from rfl]
    go_enter Try.func61, Try.ntmps61
    go_wp2
    go_ret
    exact ⟨rfl, rfl⟩
  | cons b r =>
    have hi0 : ∀ W : World, (Instr.index 9 (.string (bs (b :: r))) (.int .i64 0)).run Try.prog W = .ok (.int .u8 (b.toNat : Int)) W := fun W => index_bs (b :: r) 0 (by simp) W
    have hsz := bs_size (b :: r)
    simp only [List.length_cons] at hsz
    have hq0 : ((bs (b :: r)).size : Int) ≠ 0 := by omega
    have hb := UInt8.toNat_lt b
    have HK : Hid (kindL (b :: r) = if b.toNat < 241 ∨ 250 < b.toNat then 0 else b.toNat - 240) := rfl
    clear hsz
    generalize bs (b :: r) = S at *
    generalize kindL (b :: r) = kk at *
    generalize b.toNat = n at *
    have hqz : ((S.size : Int) == 0) = false := by rw [beq_eq_false_iff_ne]; exact hq0
    clear hq0
    by_cases h1 : n < 241
    · have HE : Hid (kk = 0) := by show kk = 0; rw [HK.out, if_pos (.inl h1)]
      have q1 : decide ((n : Int) < 241) = true := decide_eq_true (by omega)
      go_enter Try.func61, Try.ntmps61
      go_wp2
      go_ret
      exact ⟨by rw [HE.out]; rfl, rfl⟩
    · have q1 : decide ((n : Int) < 241) = false := decide_eq_false (by omega)
      by_cases h2 : 250 < n
      · have HE : Hid (kk = 0) := by show kk = 0; rw [HK.out, if_pos (.inr h2)]
        have q2 : decide ((n : Int) > 250) = true := decide_eq_true (by omega)
        go_enter Try.func61, Try.ntmps61
        go_wp2
        go_ret
        exact ⟨by rw [HE.out]; rfl, rfl⟩
      · have HE : Hid ((kk : Int) = (n : Int) - 240) := by show (kk : Int) = _; rw [HK.out, if_neg (by omega)]; omega
        have q2 : decide ((n : Int) > 250) = false := decide_eq_false (by omega)
        go_enter Try.func61, Try.ntmps61
        go_wp2
        go_ret
        exact ⟨by rw [HE.out]; rfl, rfl⟩
end Go.Proofs.Ytemhifeddejkjaa
