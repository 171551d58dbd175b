/- The contract of pack: numbers below 2^32, four bytes each. -/
import Derived.Test.YtnbhbhogcggbnaaBase
import Derived.Outline
import Derived.Laws.BytesArg
import Derived.Laws.MakeOwn
namespace Go.Proofs.Ytnbhbhogcggbnaa
open Go.RowKit
theorem info_u8 : (Try.prog.info? 5).map (fun i => (i.zero, i.size, i.bytes)) = some (some (.int .u8 0), 1, 1) := by kernel_rfl

def byteCells (l : List UInt8) : List Value := l.map fun b => Value.int .u8 b.toNat
theorem byteCells_append (a b : List UInt8) : byteCells (a ++ b) = byteCells a ++ byteCells b := by simp [byteCells]
theorem byteCells_length (a : List UInt8) : (byteCells a).length = a.length := by simp [byteCells]
theorem byteCells_one (a : List UInt8) : ∀ u ∈ byteCells a, u.oneCell' = true := by
  intro u hu
  obtain ⟨_, _, rfl⟩ := List.mem_map.1 hu
  rfl
theorem pack4_cells (t : Nat) (ht : t < 4294967296) : [Value.int .u8 ((t : Int) / 16777216), .int .u8 ((t : Int) / 65536 % 256), .int .u8 ((t : Int) / 256 % 256), .int .u8 ((t : Int) % 256)] = byteCells (pack4 t) := by
  simp [byteCells, pack4]
  omega
theorem packed_step (l : List Nat) (k : Nat) (h : k < l.length) : byteCells (packL (l.take (k + 1))) = byteCells (packL (l.take k)) ++ byteCells (pack4 l[k]) := by
  rw [List.take_succ_eq_append_getElem h, packL_snoc, byteCells_append]

/-- string(b), b a row of bytes of the call's own. -/
theorem run_string_own {w : World} {base g n cap : Nat} {l : List UInt8} (h : w.ownsRow base 5 1 (.slice (some ⟨g, 0, none⟩) n cap) n (byteCells l)) :
    (convert 53 9 (.slice (some ⟨g, 0, none⟩) n cap)).run Try.prog w = .ok (.string ⟨l.toArray⟩) w := by
  have hl : l.length = n := by have h1 := h.1; rw [byteCells_length] at h1; omega
  have hc := h.cells (g := g) rfl
  have hr := run_convert_bytes_arg (P := Try.prog) w 53 5 Try.underlying53 Try.underlying5 g 0 n cap (l.map fun b => (b.toNat : Int)) (by simpa using hl) (fun i hi => by
    have := hc i (.int .u8 (l[i]'(by omega)).toNat) (by simp [byteCells, show i < l.length by omega])
    rw [Addr.add_lit] at this
    rw [this]
    simp [List.getD, show i < l.length by omega]) 9 Try.underlying9
  have e : strOfNums (l.map fun b => (b.toNat : Int)) = ⟨l.toArray⟩ := by
    have : (l.map fun b => (b.toNat : Int)).map (fun n => UInt8.ofNat n.toNat) = l := by
      rw [List.map_map]
      exact (List.map_congr_left (fun b _ => by simp)).trans (List.map_id l)
    rw [strOfNums, this]
  rw [hr, e]

set_option maxRecDepth 100000 in
theorem pack_any (v : Value) (l : List Nat) (w : World) (hv : IdsAt w v (l.map Int.ofNat)) (hl : l.length ≤ 65536) (ht : ∀ t ∈ l, t < 4294967296) :
    Calls Try.prog 70 #[v] w fun e w' => e = .returned (.string (packB l)) ∧ Below w.heap.size w w' := by
  obtain ⟨ao, cap, rfl, hc⟩ := hv
  obtain ⟨i0, hi, hz0, hz1, hz2⟩ := info_parts info_u8
  simp only [List.length_map] at *
  go_enter Try.func70, Try.ntmps70
  go_wp2_with (at_make; refine wpList_make_own _ rfl _ _ 53 rfl w.heap.size 5 i0 _ 1 Try.underlying53 hi hz0 hz1 _ _ _ (4 * l.length) rfl rfl (by omega) ?b1 ?b2 ?b3 ?_)
  case b1 => rw [hz2]; omega
  case b2 => unfold maxLen; omega
  case b3 => exact Nat.le_refl _
  intro w1 hown hgrow
  have hbel : Below w.heap.size w w1 := (Below.refl _ _).grown hgrow (Nat.le_refl _) (by simp)
  go_wp2
  go_loopw [3, 12] (fun v i wr => ∃ k : Nat, k ≤ l.length ∧ i = .int .i64 k ∧ v = .slice (some ⟨w.heap.size, 0, none⟩) (4 * k) (4 * l.length) ∧
      wr.ownsRow w.heap.size 5 1 (.slice (some ⟨w.heap.size, 0, none⟩) (4 * k) (4 * l.length)) (4 * k) (byteCells (packL (l.take k))) ∧ Below w.heap.size w wr) (fun _ i _ => l.length - (intOf i).toNat)
  case atStart => exact ⟨0, Nat.zero_le _, rfl, rfl, by simpa [packL, byteCells] using hown, hbel⟩
  case round =>
    clear hown hbel hgrow
    obtain ⟨k, hk, rfl, rfl, hown, hbel⟩ := hrel
    by_cases hlt : k < l.length
    · obtain ⟨b, off, rfl, hb, hcell⟩ := hc (by intro h; simp at h; subst h; simp at hlt)
      have htk := ht l[k] (List.getElem_mem hlt)
      obtain ⟨t, hT⟩ : ∃ t, t = l[k] := ⟨_, rfl⟩
      have hc1 := (hbel.cell (p := ⟨b, off + k, none⟩) hb).trans (hcell k (t : Int) (by simp [hT, hlt]))
      rw [← hT] at htk
      clear hcell hc ht
      have HT := Lib.hid hT
      clear hT
      go_wp2_with (at_builtin; refine wpList_append_fits _ rfl (.tmp 16) (.tmp 28) _ rfl w.heap.size 5 i0 1 Try.underlying53 hi hz1 w.heap.size (4 * k) (4 * l.length) _ rfl (hown.alloc _) ⟨wr.heap.size, 0, none⟩ 4 4 [.int .u8 ((t : Int) / 16777216), .int .u8 ((t : Int) / 65536 % 256), .int .u8 ((t : Int) / 256 % 256), .int .u8 ((t : Int) % 256)] rfl rfl ?c1 ?c2 (by omega) ?_)
      case c1 =>
        intro j u hj
        have hg := Holds.new wr 5 #[.int .u8 ((t : Int) / 16777216), .int .u8 ((t : Int) / 65536 % 256), .int .u8 ((t : Int) / 256 % 256), .int .u8 ((t : Int) % 256)]
        rw [Addr.add_lit, Nat.zero_add, hg.cell]
        simpa using hj
      case c2 => intro u hu; simp at hu; rcases hu with rfl | rfl | rfl | rfl <;> rfl
      intro w2 hown2 hgrow2
      have hbel2 : Below w.heap.size w w2 := (hbel.alloc hbel.size _).grown hgrow2 (by simp; have := hbel.size; omega) (by simp)
      rw [pack4_cells t htk, HT.out, ← packed_step l k hlt, show 4 * k + 4 = 4 * (k + 1) from rfl] at hown2
      clear hown hbel hgrow2
      go_wp2
      go_roundw
      case rel => exact ⟨k + 1, by omega, by go_num, rfl, hown2, hbel2⟩
      case measure => simp [intOf]; omega
    · have hk' : k = l.length := by omega
      subst hk'
      rw [List.take_length] at hown
      have hcv := run_string_own hown
      clear hc
      go_wp2
      go_ret
      exact ⟨rfl, hbel⟩
end Go.Proofs.Ytnbhbhogcggbnaa
