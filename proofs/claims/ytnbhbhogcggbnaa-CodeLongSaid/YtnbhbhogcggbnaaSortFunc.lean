/- The contract of SortFunc for at most 12 terms. -/
import Derived.Test.YtnbhbhogcggbnaaSort
namespace Go.Proofs.Ytnbhbhogcggbnaa
open Go.RowKit

set_option maxRecDepth 1000000 in
theorem Len64_any (n : Int) (hn0 : 0 ≤ n) (hn : n ≤ 12) (w : World) : Calls Try.prog 99 #[.int .u64 n] w fun e w' => ∃ z : Int, e = .returned (.int .i64 z) ∧ w = w' := by
  go_enter Try.func99, Try.ntmps99
  generalize hlit : (ByteArray.mk (List.toArray (List.append (List.append _ _) (List.append _ _)))) = S
  have hsz : (S.size : Int) = 256 := by
    rw [← hlit]
    kernel_rfl
  clear hlit
  have h1 : n < 256 := by omega
  have h2 : n < 65536 := by omega
  have h3 : n < 4294967296 := by omega
  go_wp2_with fail
  go_ret
  exact ⟨_, rfl, rfl⟩
theorem bitsLen_any (n : Int) (hn0 : 0 ≤ n) (hn : n ≤ 12) (w : World) : Calls Try.prog 73 #[.int .u64 n] w fun e w' => ∃ z : Int, e = .returned (.int .i64 z) ∧ w = w' := by
  go_enter Try.func73, Try.ntmps73
  go_wp2_with (go_at_call 99; refine (Len64_any _ hn0 hn _).mono ?_; rintro e w' ⟨z, rfl, rfl⟩)
  go_ret
  exact ⟨_, rfl, rfl⟩

set_option maxHeartbeats 1000000 in
set_option maxRecDepth 100000 in
theorem pdq_any {B A G cap : Nat} {L : List Ent} {F : Nat → Prop} {w : World} (ha : ArenaAt B A L F w) (hG : ¬ F G) {l : List Nat} (hl : ∀ t ∈ l, t < L.length) (hn : l.length ≤ 12) (z : Int)
    (hown : w.ownsRow B 32 1 (.slice (some ⟨G, 0, none⟩) l.length cap) l.length (ints l)) :
    Calls Try.prog 72 #[.slice (some ⟨G, 0, none⟩) l.length cap, .int .i64 0, .int .i64 l.length, .int .i64 z, cmpV A] w fun e w' => e = .returned (.tuple #[]) ∧
      ∃ d, d.Perm l ∧ Sorted L d ∧ w'.ownsRow B 32 1 (.slice (some ⟨G, 0, none⟩) l.length cap) l.length (ints d) ∧ Moves (fun k => k = G) w w' := by
  have hs := insSort_any ha hG hl hn hown
  unfold cmpV at *
  clear hown
  go_enter Try.func72, Try.ntmps72
  go_wp2_with fail
  refine wp_loop_rounds 1 ?_
  rw [rounds_succ]
  go_wp2_with (go_at_call 90; refine hs.mono ?_; rintro e w' ⟨rfl, hq⟩)
  refine bodyPost_ret (v := .tuple #[]) (by simp [results, Try.results72, go_sem]) rfl ⟨rfl, hq⟩

set_option maxRecDepth 100000 in
theorem SortFunc_any {B A G cap : Nat} {L : List Ent} {F : Nat → Prop} {w : World} (ha : ArenaAt B A L F w) (hG : ¬ F G) {l : List Nat} (hl : ∀ t ∈ l, t < L.length) (hn : l.length ≤ 12)
    (hown : w.ownsRow B 32 1 (.slice (some ⟨G, 0, none⟩) l.length cap) l.length (ints l)) :
    Calls Try.prog 43 #[.slice (some ⟨G, 0, none⟩) l.length cap, cmpV A] w fun e w' => e = .returned (.tuple #[]) ∧
      ∃ d, d.Perm l ∧ Sorted L d ∧ w'.ownsRow B 32 1 (.slice (some ⟨G, 0, none⟩) l.length cap) l.length (ints d) ∧ Moves (fun k => k = G) w w' := by
  have hs := fun z => pdq_any ha hG hl hn z hown
  have hb := bitsLen_any (l.length : Int) (by omega) (by omega)
  unfold cmpV at *
  clear hown
  go_enter Try.func43, Try.ntmps43
  go_wp2_with (first
    | (go_at_call 73; refine (hb _).mono ?_; rintro e w' ⟨z, rfl, rfl⟩)
    | (go_at_call 72; refine (hs _).mono ?_; rintro e w' ⟨rfl, hq⟩))
  go_end0
  exact ⟨rfl, hq⟩
end Go.Proofs.Ytnbhbhogcggbnaa
