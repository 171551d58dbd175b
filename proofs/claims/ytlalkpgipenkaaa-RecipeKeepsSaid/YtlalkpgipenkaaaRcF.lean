/- Layer 14: Right; All. -/
import Derived.Test.YtlalkpgipenkaaaRcE
import Derived.Test.YtlalkpgipenkaaaMkOut
import Derived.Test.YtlalkpgipenkaaaLen
import Derived.Deep.AppendLies
import Derived.Deep.RegionLaw
namespace Go.Proofs.Ytlalkpgipenkaaa
open Go.RowKit

/-- A slice value that reads as the steps l. -/
def OpsAt (w : World) (v : Value) (l : List OpR) : Prop :=
  ∃ ao cap, v = .slice ao l.length cap ∧ (l ≠ [] → ∃ b off, ao = some ⟨b, off, none⟩ ∧ b < w.heap.size ∧ ∀ k x, l[k]? = some x →
    w.cell? ⟨b, off + k * 5, none⟩ = some (.int .i64 x.kind) ∧ w.cell? ⟨b, off + k * 5 + 1, none⟩ = some (.int .i64 x.a) ∧ w.cell? ⟨b, off + k * 5 + 2, none⟩ = some (.int .i64 x.b) ∧
    w.cell? ⟨b, off + k * 5 + 3, none⟩ = some (.int .i64 x.c) ∧ w.cell? ⟨b, off + k * 5 + 4, none⟩ = some (.string (bs x.s)))
theorem OpsAt.moves {S : Nat → Prop} {w w' : World} {v : Value} {l : List OpR} (h : OpsAt w v l) (m : Moves S w w') (hS : ∀ k, v.ownBlock = some k → ¬ S k) : OpsAt w' v l := by
  obtain ⟨ao, cap, rfl, h⟩ := h
  refine ⟨ao, cap, rfl, fun hne => ?_⟩
  obtain ⟨b, off, rfl, hb, hk⟩ := h hne
  have e : ∀ i, w'.cell? ⟨b, i, none⟩ = w.cell? ⟨b, i, none⟩ := fun i => m.cell (p := ⟨b, i, none⟩) hb (hS b rfl)
  refine ⟨b, off, rfl, Nat.lt_of_lt_of_le hb m.size, fun k x hx => ?_⟩
  simp only [e]
  exact hk k x hx
theorem OpsAt.below {w w' : World} {v : Value} {l : List OpR} (h : OpsAt w v l) (hb : Below w.heap.size w w') : OpsAt w' v l := h.moves (S := nobody) (Moves.ofBelow hb) (fun _ _ h => h)
theorem rcNeRow {B A base n : Nat} {L : List Ent} {F : Nat → Prop} {w : World} {t : TypeId} {v : Value} {xs : List Value} (h : ArenaAt B A L F w) (hr : w.ownsRow base t 1 v n xs) (h1 : t ≠ 85) (h2 : t ≠ 91) : ∀ k, v.ownBlock = some k → ¬ F k := by
  intro k hk
  rcases hr.2 with ⟨rfl, _⟩ | ⟨g, cap, cur, rfl, _, hg, _⟩
  · simp [Value.ownBlock] at hk
  · have : g = k := by simpa [Value.ownBlock] using hk
    subst this
    exact arena_ne h (show Holds w g t cur from hg) h1 h2
def idsC (l : List Int) : List Value := l.map (Value.int .i64)
theorem idsC_snoc (l : List Int) (x : Int) : idsC (l ++ [x]) = idsC l ++ [.int .i64 x] := by simp [idsC]
theorem IdsAt.ofOwn {w : World} {base : Nat} {v : Value} {l : List Int} (h : w.ownsRow base 49 1 v l.length (idsC l)) : IdsAt w v l := by
  have hown := h
  rcases h.2 with ⟨rfl, h0⟩ | ⟨g, cap', cur, rfl, hg, hh, hn, hcap, hsz, htake⟩
  · rw [List.length_eq_zero_iff.1 h0]; exact IdsAt.nil w
  · refine ⟨some ⟨g, 0, none⟩, cap', rfl, fun _ => ⟨g, 0, rfl, (Array.getElem?_eq_some_iff.1 hh).1, fun k x hk => ?_⟩⟩
    have hk' := (List.getElem?_eq_some_iff.1 hk).1
    rw [Nat.zero_add, hown.cellAt k (by omega)]
    simp [idsC, hk]

theorem cRight_any {w : World} (ao : Option Addr) (n cap : Nat) (hn : n ≤ 9223372036854775807) :
    Calls Try.prog 52 #[.slice ao n cap] w fun r w' => r = .returned (.bool (decide ((n : Int) ≤ 64))) ∧ w' = w := by
  go_enter Try.func52, Try.ntmps52
  go_wp2_with fail
  go_ret
  exact ⟨rfl, rfl⟩
theorem cAll_long {w : World} {A : Nat} (ao : Option Addr) (n cap : Nat) (hn : 64 < n) (hn2 : n ≤ 9223372036854775807) (vk vs : Value) :
    Calls Try.prog 34 #[.pointer (some ⟨A, 0, none⟩), vk, vs, .slice ao n cap] w fun r w' => r = .returned (.slice none 0 0) ∧ w' = w := by
  have HR := Lib.hid (fun W => cRight_any (w := W) ao n cap hn2)
  rw [show decide ((n : Int) ≤ 64) = false from decide_eq_false (by omega)] at HR
  go_enter Try.func34, Try.ntmps34
  go_wp2_with (go_at_call 52; (with_reducible refine (HR.out _).mono ?_); rintro r w' ⟨rfl, hw⟩; have hw := hw.symm; subst hw)
  go_ret
  exact ⟨rfl, rfl⟩
end Go.Proofs.Ytlalkpgipenkaaa
