/- Len of an arena. -/
import Derived.Test.YtlalkpgipenkaaaArena
namespace Go.Proofs.Ytlalkpgipenkaaa
open Go.RowKit

theorem Len_any {B A : Nat} {L : List Ent} {F : Nat → Prop} {w : World} (h : ArenaAt B A L F w) :
    Calls Try.prog 53 #[.pointer (some ⟨A, 0, none⟩)] w fun e w' => e = .returned (.int .i64 L.length) ∧ w = w' := by
  obtain ⟨ao, cap, mb, c0, _, hlen, _⟩ := h.read
  clear h
  go_enter Try.func53, Try.ntmps53
  go_wp2
  go_ret
  exact ⟨rfl, rfl⟩

end Go.Proofs.Ytlalkpgipenkaaa
