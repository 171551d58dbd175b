/- The contract of unpack: what was packed, in new memory. -/
import Derived.Test.YtemhifeddejkjaaNumber
import Derived.BigRegion
import Derived.Laws.BitsAllLaws
import Derived.Laws.BitsLemmas
namespace Go.Proofs.Ytemhifeddejkjaa
open Go.RowKit
theorem info_id : (Try.prog.info? 33).map (fun i => (i.zero, i.size, i.bytes)) = some (some (.int .i64 0), 1, 8) := by kernel_rfl

theorem join_t (t b0 b1 b2 b3 : Nat) (h : t < 4294967296) (h0 : b0 = t / 16777216) (h1 : b1 = t / 65536 % 256) (h2 : b2 = t / 256 % 256) (h3 : b3 = t % 256) :
    bits .or .i64 (bits .or .i64 (bits .or .i64 ((b0 : Int) * 16777216) ((b1 : Int) * 65536)) ((b2 : Int) * 256)) (b3 : Int) = (t : Int) ∧ b0 < 256 ∧ b1 < 256 ∧ b2 < 256 ∧ b3 < 256 := by
  obtain ⟨hf, hl⟩ := four_digits t h
  have l1 : b1 < 256 := by rw [h1]; exact Nat.mod_lt _ (by decide)
  have l2 : b2 < 256 := by rw [h2]; exact Nat.mod_lt _ (by decide)
  have l3 : b3 < 256 := by rw [h3]; exact Nat.mod_lt _ (by decide)
  have l0 : b0 < 256 := by rw [h0]; exact hl
  refine ⟨?_, l0, l1, l2, l3⟩
  rw [join_i64 b0 b1 b2 b3 l0 l1 l2 l3, h0, h1, h2, h3, hf]

/-- A store into the first spare cell of an owned row, its length one more. -/
theorem owns_push {w : World} {B g n cap : Nat} {e : TypeId} {xs : List Value} (h : w.ownsRow B e 1 (.slice (some ⟨g, 0, none⟩) n cap) n xs) (hn : n < cap) (u : Value) :
    (w.setCell ⟨g, n, none⟩ u).ownsRow B e 1 (.slice (some ⟨g, 0, none⟩) (n + 1) cap) (n + 1) (xs ++ [u]) := by
  obtain ⟨hl, h⟩ := h
  rcases h with ⟨h, _⟩ | ⟨g', cap', cur, hv, hb, hg, hnc, hcm, hcs, ht⟩
  · cases h
  · injection hv with h1 h2 h3
    injection h1 with h1
    injection h1 with h1
    subst h1
    subst h3
    refine ⟨by simp [hl], .inr ⟨g, cap, cur.setIfInBounds n u, rfl, hb, ?_, by omega, hcm, by simpa using hcs, ?_⟩⟩
    · simp [World.setCell, Array.getElem?_modify, hg]
    · rw [← ht]
      have hlt : n < cur.toList.length := by rw [Array.length_toList]; omega
      simp only [Array.toList_setIfInBounds, Nat.mul_one]
      rw [List.take_succ_eq_append_getElem (by simpa using hlt), List.take_set_of_le (Nat.le_refl n)]
      simp
theorem owns_cast {w : World} {B n size : Nat} {e : TypeId} {v : Value} {xs ys : List Value} (h : w.ownsRow B e size v n xs) (hx : xs = ys) : w.ownsRow B e size v n ys := hx ▸ h
theorem owns_spare {w : World} {B g n cap : Nat} {e : TypeId} {xs : List Value} (h : w.ownsRow B e 1 (.slice (some ⟨g, 0, none⟩) n cap) n xs) (hn : n < cap) :
    ∃ old, w.cell? ⟨g, n, none⟩ = some old ∧ w.frozen? ⟨g, n, none⟩ = false := by
  obtain ⟨hl, h⟩ := h
  rcases h with ⟨h, _⟩ | ⟨g', cap', cur, hv, hb, hg, hnc, hcm, hcs, ht⟩
  · cases h
  · injection hv with h1 h2 h3
    injection h1 with h1
    injection h1 with h1
    subst h1
    subst h3
    have hh : Holds w g e cur := hg
    exact ⟨cur[n]'(by omega), by rw [hh.cell, Array.getElem?_eq_getElem (by omega)], hh.frozen n⟩

/-! ### the bytes of a packed list -/
theorem packB_get (l : List Nat) (i : Nat) (h : i < (packB l).size) : (packB l)[i] = (packL l)[i]'(by rw [packL_length]; rw [packB_size] at h; exact h) := by
  simp [packB, ByteArray.getElem_eq_getElem_data]
theorem packB_tail (t : Nat) (l : List Nat) : (packB (t :: l)).extract 4 (packB (t :: l)).size = packB l := by
  have h : (packB (t :: l)).size = 4 + (packL l).length := by rw [packB_size, packL_length]; simp; omega
  rw [h]
  apply ByteArray.ext
  apply Array.ext'
  have e : (packB (t :: l)).data.toList = pack4 t ++ packL l := by simp [packB, packL]
  rw [ByteArray.data_extract, Array.toList_extract, e]
  simp [List.extract, pack4, packB]
theorem packB_drop (l : List Nat) (k : Nat) (h : k < l.length) : packB (l.drop k) = packB (l[k] :: l.drop (k + 1)) := by rw [List.drop_eq_getElem_cons h]

set_option maxRecDepth 100000 in
theorem unpack_any (l : List Nat) (w : World) (hl : l.length ≤ 65536) (ht : ∀ t ∈ l, t < 4294967296) :
    Calls Try.prog 30 #[.string (packB l)] w fun e w' => e = .returned (.slice (some ⟨w.heap.size, 0, none⟩) l.length l.length) ∧
      w'.ownsRow w.heap.size 33 1 (.slice (some ⟨w.heap.size, 0, none⟩) l.length l.length) l.length (l.map fun t => .int .i64 (t : Nat)) ∧ Below w.heap.size w w' := by
  obtain ⟨i0, hi, hz0, hz1, hz2⟩ := info_parts info_id
  have hsz := packB_size l
  have hq : (packB l).size / 4 = l.length := by omega
  obtain ⟨S, hS⟩ : ∃ S, S = packB l := ⟨_, rfl⟩
  rw [← hS] at hsz hq ⊢
  have HQ := Lib.hid hq
  have HS := Lib.hid hS
  have hS4 : S.size ≤ 262144 := by omega
  clear hsz hq hS
  go_enter Try.func30, Try.ntmps30
  go_wp2_with (at_make; refine wpList_make_own _ rfl _ _ 28 rfl w.heap.size 33 i0 _ 1 Try.underlying28 hi hz0 hz1 _ _ _ (S.size / 4) rfl rfl (by omega) ?b1 ?b2 ?b3 ?_)
  case b1 => rw [hz2]; omega
  case b2 => unfold maxLen; omega
  case b3 => exact Nat.le_refl _
  intro w1 hown hgrow
  rw [HQ.out] at hown ⊢
  have hbel : Below w.heap.size w w1 := (Below.refl _ _).grown hgrow (Nat.le_refl _) (by simp)
  go_wp2_with fail
  go_loopw [0, 3] (fun s v wr => ∃ k : Nat, k ≤ l.length ∧ s = .string (packB (l.drop k)) ∧ v = .slice (some ⟨w.heap.size, 0, none⟩) k l.length ∧
      wr.ownsRow w.heap.size 33 1 (.slice (some ⟨w.heap.size, 0, none⟩) k l.length) k ((l.take k).map fun t => .int .i64 (t : Nat)) ∧ Below w.heap.size w wr) (fun s _ _ => match s with | .string s => s.size | _ => 0)
  case atStart => exact ⟨0, Nat.zero_le _, by rw [HS.out]; rfl, rfl, by simpa using hown, hbel⟩
  case round =>
    clear hown hbel hgrow HS HQ hS4
    obtain ⟨k, hk, rfl, rfl, hown, hbel⟩ := hrel
    by_cases hlt : k < l.length
    · obtain ⟨t, hT⟩ : ∃ t, t = l[k] := ⟨_, rfl⟩
      have htk := ht l[k] (List.getElem_mem hlt)
      rw [← hT] at htk
      have hp := packB_drop l k hlt
      rw [← hT] at hp
      have hz := packB_size (t :: l.drop (k + 1))
      have hz2 := packB_size (l.drop (k + 1))
      have hext := packB_tail t (l.drop (k + 1))
      have hge : ∀ (j : Nat) (hj : j < 4), (packB (t :: l.drop (k + 1)))[j]'(by rw [hz]; simp; omega) = (pack4 t)[j]'hj := fun j hj => by
        rw [packB_get]
        simp only [packL, List.flatMap_cons]
        exact List.getElem_append_left hj
      have HT : Hid (l.take (k + 1) = l.take k ++ [t]) := by rw [hT]; exact List.take_succ_eq_append_getElem hlt
      simp only [List.length_cons, List.length_drop] at hz hz2
      rw [hp]
      have hsz4 : (packB (t :: l.drop (k + 1))).size = 4 * (l.length - (k + 1) + 1) := hz
      obtain ⟨S, hS⟩ : ∃ S, S = packB (t :: l.drop (k + 1)) := ⟨_, rfl⟩
      have hSz : S.size = 4 * (l.length - (k + 1) + 1) := by rw [hS]; exact hz
      have ix : ∀ (j : Nat) (hj : j < 4) (b : Nat), ((pack4 t)[j]'hj).toNat = b → ∀ W : World, (Instr.index 9 (.string S) (.int .i64 (j : Int))).run Try.prog W = .ok (.int .u8 b) W := fun j hj b hb W => by
        rw [run_index_string (P := Try.prog) W 9 S .i64 j Try.underlying9, dif_pos (by omega)]
        subst hS
        have := hge j hj
        simp only [Int.toNat_natCast]
        rw [this, hb]
      have x0 : ∀ W : World, (Instr.index 9 (.string S) (.int .i64 0)).run Try.prog W = .ok (.int .u8 (t / 16777216 : Nat)) W := ix 0 (by omega) (t / 16777216) (by simp only [pack4, List.getElem_cons_zero, UInt8.toNat_ofNat']; exact Nat.mod_eq_of_lt (four_digits t htk).2)
      have x1 : ∀ W : World, (Instr.index 9 (.string S) (.int .i64 1)).run Try.prog W = .ok (.int .u8 (t / 65536 % 256 : Nat)) W := ix 1 (by omega) (t / 65536 % 256) (by simp [pack4])
      have x2 : ∀ W : World, (Instr.index 9 (.string S) (.int .i64 2)).run Try.prog W = .ok (.int .u8 (t / 256 % 256 : Nat)) W := ix 2 (by omega) (t / 256 % 256) (by simp [pack4])
      have x3 : ∀ W : World, (Instr.index 9 (.string S) (.int .i64 3)).run Try.prog W = .ok (.int .u8 (t % 256 : Nat)) W := ix 3 (by omega) (t % 256) (by simp [pack4])
      obtain ⟨b0, h0⟩ : ∃ b, b = t / 16777216 := ⟨_, rfl⟩
      obtain ⟨b1, h1⟩ : ∃ b, b = t / 65536 % 256 := ⟨_, rfl⟩
      obtain ⟨b2, h2⟩ : ∃ b, b = t / 256 % 256 := ⟨_, rfl⟩
      obtain ⟨b3, h3⟩ : ∃ b, b = t % 256 := ⟨_, rfl⟩
      rw [← h0] at x0
      rw [← h1] at x1
      rw [← h2] at x2
      rw [← h3] at x3
      obtain ⟨hj, B0, B1, B2, B3⟩ := join_t t b0 b1 b2 b3 htk h0 h1 h2 h3
      have HJ := Lib.hid hj
      have HS := Lib.hid hS
      have HE : Hid (S.extract 4 S.size = packB (l.drop (k + 1))) := by rw [hS]; exact hext
      have hSge : 4 ≤ S.size := by omega
      have hSle : S.size ≤ 262144 := by omega
      have HZ := Lib.hid hSz
      rw [← hS]
      obtain ⟨old, hold, hfz⟩ := owns_spare hown hlt
      have hglt : w.heap.size < wr.heap.size := (hown.lt _ rfl).2
      clear ix hge hT hp hj h0 h1 h2 h3 hS hz hz2 hext hSz hsz4 ht
      go_wp2_with fail
      go_region
      go_wp2_with fail
      go_roundw
      case rel => exact ⟨k + 1, by omega, by rw [HE.out], rfl, owns_cast (((owns_push hown hlt _).alloc _).drew) (by rw [HT.out, List.map_append, HJ.out]; rfl), ((hbel.setCell (Nat.le_refl _) _).alloc (by simp [World.setCell]; omega) _).drew⟩
      case measure => simp [HE.out, packB_size]; have := HZ.out; omega
    · have hkl : k = l.length := by omega
      subst hkl
      rw [List.drop_length, List.take_length] at *
      clear ht hk hlt
      have hz : Hid ((packB []).size = 0) := packB_size []
      go_wp2_with fail
      go_ret
      exact ⟨rfl, hown, hbel⟩
end Go.Proofs.Ytemhifeddejkjaa
