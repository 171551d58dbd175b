/- The contract of pack: numbers below 2^32, four bytes each. -/
import Derived.Test.YtemefbpoemnnpaaBase
import Derived.Outline
import Derived.Laws.BytesArg
import Derived.Laws.MakeOwn
namespace Go.Proofs.Ytemefbpoemnnpaa
open Go.RowKit
set_option maxRecDepth 100000 in
theorem pack_any (v : Value) (l : List Nat) (w : World) (hv : IdsAt w v (l.map Int.ofNat)) (hl : l.length ≤ 65536) (ht : ∀ t ∈ l, t < 4294967296) :
    Calls Try.prog 70 #[v] w fun e w' => e = .returned (.string (packB l)) ∧ Below w.heap.size w w' := by
  obtain ⟨ao, cap, rfl, hc⟩ := hv
  obtain ⟨i0, hi, hz0, hz1, hz2⟩ := info_parts info_u8
  simp only [List.length_map] at *
  go_enter Try.func70, Try.ntmps70
  go_wp2_with (at_make; refine wpList_make_own _ rfl _ _ 53 rfl w.heap.size 5 i0 _ 1 Try.underlying53 hi hz0 hz1 _ _ _ (4 * l.length) rfl rfl (by omega) ?b1 ?b2 ?b3 ?_)
  case b1 => rw [hz2]; omega
  case b2 => unfold maxLen; omega
  case b3 => exact Nat.le_refl _
  intro w1 hown hgrow
  have hbel : Below w.heap.size w w1 := (Below.refl _ _).grown hgrow (Nat.le_refl _) (by simp)
  go_wp2
  go_loopw [3, 12] (fun v i wr => ∃ k : Nat, k ≤ l.length ∧ i = .int .i64 k ∧ v = .slice (some ⟨w.heap.size, 0, none⟩) (4 * k) (4 * l.length) ∧
      wr.ownsRow w.heap.size 5 1 (.slice (some ⟨w.heap.size, 0, none⟩) (4 * k) (4 * l.length)) (4 * k) (byteCells (packL (l.take k))) ∧ Below w.heap.size w wr) (fun _ i _ => l.length - (intOf i).toNat)
  case atStart => exact ⟨0, Nat.zero_le _, rfl, rfl, by simpa [packL, byteCells] using hown, hbel⟩
  case round =>
    clear hown hbel hgrow
    obtain ⟨k, hk, rfl, rfl, hown, hbel⟩ := hrel
    by_cases hlt : k < l.length
    · obtain ⟨b, off, rfl, hb, hcell⟩ := hc (by intro h; simp at h; subst h; simp at hlt)
      have htk := ht l[k] (List.getElem_mem hlt)
      obtain ⟨t, hT⟩ : ∃ t, t = l[k] := ⟨_, rfl⟩
      have hc1 := (hbel.cell (p := ⟨b, off + k, none⟩) hb).trans (hcell k (t : Int) (by simp [hT, hlt]))
      rw [← hT] at htk
      clear hcell hc ht
      have HT := Lib.hid hT
      clear hT
      go_wp2_with (at_builtin; refine wpList_append_fits _ rfl (.tmp 16) (.tmp 28) _ rfl w.heap.size 5 i0 1 Try.underlying53 hi hz1 w.heap.size (4 * k) (4 * l.length) _ rfl (hown.alloc _) ⟨wr.heap.size, 0, none⟩ 4 4 [.int .u8 ((t : Int) / 16777216), .int .u8 ((t : Int) / 65536 % 256), .int .u8 ((t : Int) / 256 % 256), .int .u8 ((t : Int) % 256)] rfl rfl ?c1 ?c2 (by omega) ?_)
      case c1 =>
        intro j u hj
        have hg := Holds.new wr 5 #[.int .u8 ((t : Int) / 16777216), .int .u8 ((t : Int) / 65536 % 256), .int .u8 ((t : Int) / 256 % 256), .int .u8 ((t : Int) % 256)]
        rw [Addr.add_lit, Nat.zero_add, hg.cell]
        simpa using hj
      case c2 => intro u hu; simp at hu; rcases hu with rfl | rfl | rfl | rfl <;> rfl
      intro w2 hown2 hgrow2
      have hbel2 : Below w.heap.size w w2 := (hbel.alloc hbel.size _).grown hgrow2 (by simp; have := hbel.size; omega) (by simp)
      rw [pack4_cells t htk, HT.out, ← packed_step l k hlt, show 4 * k + 4 = 4 * (k + 1) from rfl] at hown2
      clear hown hbel hgrow2
      go_wp2
      go_roundw
      case rel => exact ⟨k + 1, by omega, by go_num, rfl, hown2, hbel2⟩
      case measure => simp [intOf]; omega
    · have hk' : k = l.length := by omega
      subst hk'
      rw [List.take_length] at hown
      have hcv := run_string_own hown
      clear hc
      go_wp2
      go_ret
      exact ⟨rfl, hbel⟩
end Go.Proofs.Ytemefbpoemnnpaa
