/- Layer 13: a row of bytes that is taken from its front and grows behind. -/
import Derived.Test.YtlalkpgipenkaaaAppM
import Derived.Laws.Slices
namespace Go.Proofs.Ytlalkpgipenkaaa
open Go.RowKit

/-- The slice v is nil and l empty, or v lies in a row of the call's own and holds l. -/
def OffB (w : World) (base : Nat) (v : Value) (l : List UInt8) : Prop :=
  (v = .slice none 0 0 ∧ l = []) ∨ ∃ g off cap cur, v = .slice (some ⟨g, off, none⟩) l.length cap ∧ base ≤ g ∧ w.heap[g]? = some (.cells cur 5 (0, 0)) ∧ l.length ≤ cap ∧ cap ≤ maxLen ∧ off + cap ≤ cur.size ∧
    ∀ j, j < l.length → cur[off + j]? = (byteCells l)[j]?
theorem OffB.nil (w : World) (base : Nat) : OffB w base (.slice none 0 0) [] := .inl ⟨rfl, rfl⟩
theorem OffB.block {w : World} {base : Nat} {v : Value} {l : List UInt8} (h : OffB w base v l) (k : Nat) (hk : v.ownBlock = some k) : base ≤ k ∧ k < w.heap.size := by
  rcases h with ⟨rfl, _⟩ | ⟨g, off, cap, cur, rfl, hb, hg, _⟩
  · simp [Value.ownBlock] at hk
  · have : g = k := by simpa [Value.ownBlock] using hk
    subst this
    exact ⟨hb, (Array.getElem?_eq_some_iff.1 hg).1⟩
theorem OffB.moves {S : Nat → Prop} {w w' : World} {base : Nat} {v : Value} {l : List UInt8} (h : OffB w base v l) (m : Moves S w w') (hS : ∀ k, v.ownBlock = some k → ¬ S k) : OffB w' base v l := by
  rcases h with h | ⟨g, off, cap, cur, rfl, hb, hg, rest⟩
  · exact .inl h
  · exact .inr ⟨g, off, cap, cur, rfl, hb, (m.block g (Array.getElem?_eq_some_iff.1 hg).1 (hS g rfl)).trans hg, rest⟩
theorem OffB.ne {w : World} {base k : Nat} {t : TypeId} {cs : Array Value} {v : Value} {l : List UInt8} (h : OffB w base v l) (hk : Holds w k t cs) (ht : t ≠ 5) : v.ownBlock ≠ some k := by
  rcases h with ⟨rfl, _⟩ | ⟨g, off, cap, cur, rfl, hb, hg, _⟩
  · simp [Value.ownBlock]
  · intro he
    have : g = k := by simpa [Value.ownBlock] using he
    subst this
    unfold Holds at hk
    rw [hk] at hg
    injection hg with hg
    injection hg with _ h2
    exact ht h2
theorem OffB.len {w : World} {base : Nat} {v : Value} {l : List UInt8} (h : OffB w base v l) : ∃ ao cap, v = .slice ao l.length cap := by
  rcases h with ⟨rfl, rfl⟩ | ⟨g, off, cap, cur, rfl, _⟩
  · exact ⟨none, 0, rfl⟩
  · exact ⟨_, _, rfl⟩

theorem off_strCells (l : List UInt8) : Lib.strCells (bs l) = byteCells l := rfl
/-- append of a string's bytes. -/
theorem append_off {w : World} {base : Nat} {v : Value} {l : List UInt8} (hown : OffB w base v l) (s : List UInt8) (hn : l.length + s.length ≤ 1000000000) (hb : base ≤ w.heap.size) :
    ∃ v' w', (Builtin.append_ #[39, 9] 39 #[v, .string (bs s)]).run Try.prog w = .ok v' w' ∧ OffB w' base v' (l ++ s) ∧ w.grownBy w' v.ownBlock ∧ ∀ k, v'.ownBlock = some k → v.ownBlock = some k ∨ w.heap.size ≤ k := by
  obtain ⟨i0, hi, hz0, hz1, hz2⟩ := info_parts info_u8
  have hss := bs_size s
  have hll : (l ++ s).length = l.length + s.length := List.length_append
  have hbl := byteCells_length l
  have hbs := byteCells_length s
  rcases hown with ⟨rfl, rfl⟩ | ⟨g, off, cap, cur, rfl, hbg, hg, hnc, hcm, hcs, hat⟩
  · obtain ⟨v', w', h1, h2, h3, _⟩ := Lib.run_append_own_string (P := Try.prog) w w.heap.size 39 9 39 5 i0 Try.underlying39 Try.underlying9 hi hz0 hz1 hz2 (.slice none 0 0) 0 [] (World.ownsRow_nil w w.heap.size 5 1) (bs s) (by rw [bs_size]; unfold maxLen; simp at hn; omega) (by rw [bs_size]; simp at hn; omega) (Nat.le_refl _)
    refine ⟨v', w', h1, ?_, h3, ?_⟩
    · rcases h2.2 with ⟨e1, e2⟩ | ⟨g, cap, cur, e1, hbg, hg, hnc, hcm, hcs, htake⟩
      · have : s = [] := List.eq_nil_of_length_eq_zero (by omega)
        exact .inl ⟨e1, by rw [this]; rfl⟩
      · rw [hss, Nat.zero_add] at e1 hnc
        refine .inr ⟨g, 0, cap, cur, e1, Nat.le_trans hb hbg, hg, hnc, hcm, by omega, fun j hj => ?_⟩
        have hj' : j < s.length := hj
        rw [hss, Nat.zero_add, Nat.mul_one, List.nil_append, off_strCells] at htake
        have : (cur.toList.take s.length)[j]? = (byteCells s)[j]? := by rw [htake]
        rw [List.getElem?_take_of_lt hj'] at this
        simpa using this
    · intro k hk
      rcases h2.2 with ⟨e1, e2⟩ | ⟨g, cap, cur, e1, hbg, hg, _⟩
      · rw [e1] at hk; simp [Value.ownBlock] at hk
      · right
        rw [e1] at hk
        have hk' : g = k := by simpa [Value.ownBlock] using hk
        subst hk'
        exact hbg
  · by_cases hroom : l.length + s.length ≤ cap
    · have hf := Lib.run_firstCells_string (P := Try.prog) w 1 (bs s)
      have hst := store_row g (off + l.length) 5 (0, 0) (byteCells s) 0 cur w hg (fun j _ h => by simp at h) (by omega) (byteCells_one s)
      rw [← off_strCells] at hst
      have hr : (Builtin.append_ #[39, 9] 39 #[.slice (some ⟨g, off, none⟩) l.length cap, .string (bs s)]).run Try.prog w = .ok (.slice (some ⟨g, off, none⟩) (l.length + s.length) cap) (w.setRow g (rowPut cur (off + l.length) (byteCells s))) := by
        have hroom' : l.length + (bs s).size ≤ cap := by omega
        simp [Builtin.append_, run_underlying Try.underlying39, run_underlying Try.underlying9, sizeOf, typeInfo, hi, hz1, Builtin.lenOf, hroom', hf, Addr.add_lit, hst]
        exact ⟨hss, by rw [off_strCells]⟩
      refine ⟨_, _, hr, .inr ⟨g, off, cap, _, by rw [hll], hbg, setRow_heap w g cur _ _ (0, 0) hg, by omega, hcm, by rw [rowPut_size]; exact hcs, fun j hj => ?_⟩, ⟨rfl, rfl, rfl, by simp [World.setRow], fun k _ hk => setRow_other w g k _ (fun e => hk (by simp [Value.ownBlock, e]))⟩, fun k hk => .inl hk⟩
      rw [byteCells_append]
      by_cases hj2 : j < l.length
      · rw [rowPut_low _ _ _ _ (by omega), hat j hj2, List.getElem?_append_left (by omega)]
      · have := rowPut_at (byteCells s) cur (off + l.length) (j - l.length) (by omega) (by omega)
        rw [show off + l.length + (j - l.length) = off + j by omega] at this
        rw [this, List.getElem?_append_right (by omega), hbl]
    · have hr := Lib.run_append_grow_string (P := Try.prog) w 39 9 39 5 i0 (.int .u8 0) Try.underlying39 Try.underlying9 hi hz0 ⟨g, off, none⟩ l.length cap (byteCells l) (by rw [hz1, Nat.mul_one]; exact hbl) (fun j u hu => by
        have hj : j < l.length := by have := (List.getElem?_eq_some_iff.1 hu).1; omega
        rw [Addr.add_lit, cell_of_row w g (off + j) cur _ (0, 0) hg, hat j hj, hu]) (bs s) (by omega) (by omega) (by rw [hz2]; exact growslice_fits (by omega) (by omega))
      have hge := grownCap_ge w (l.length + (bs s).size) cap 5
      have hle : grownCap w (l.length + (bs s).size) cap 5 ≤ maxLen := grownCap_le_maxLen w (l.length + (bs s).size) cap 5 (by unfold maxLen; omega)
      have hzc : (Value.int IntKind.u8 0).cells.size = 1 := rfl
      have hcz : ((byteCells l).toArray ++ (Lib.strCells (bs s)).toArray ++ Builtin.zeroCells (Value.int IntKind.u8 0).cells (grownCap w (l.length + (bs s).size) cap 5 - (l.length + (bs s).size))).size = grownCap w (l.length + (bs s).size) cap 5 := by
        simp only [Array.size_append, List.size_toArray, size_zeroCells, hzc, hbl, off_strCells, hbs]
        omega
      refine ⟨_, _, hr, .inr ⟨w.heap.size, 0, _, _, by rw [hll, hss], hb, heap_alloc_new w.drew _, by omega, hle, by rw [hcz]; omega, fun j hj => ?_⟩, ⟨rfl, rfl, rfl, by simp, fun k hk _ => Below.heap_alloc w.drew _ k hk⟩, fun k hk => .inr (Nat.le_of_eq (by simpa [Value.ownBlock] using hk))⟩
      rw [off_strCells, byteCells_append, Nat.zero_add, Array.getElem?_append_left (by simp only [Array.size_append, List.size_toArray]; omega)]
      simp
/-- The string of such a row. -/
theorem string_off {w : World} {base : Nat} {v : Value} {l : List UInt8} (h : OffB w base v l) : (convert 39 9 v).run Try.prog w = .ok (.string (bs l)) w := by
  rcases h with ⟨rfl, rfl⟩ | ⟨g, off, cap, cur, rfl, hbg, hg, hnc, hcm, hcs, hat⟩
  · exact run_convert_bytes_nil (P := Try.prog) w 39 5 Try.underlying39 Try.underlying5 0 0 9 Try.underlying9
  · have hr := run_convert_bytes_arg (P := Try.prog) w 39 5 Try.underlying39 Try.underlying5 g off l.length cap (l.map fun b => (b.toNat : Int)) (by simp) (fun i hi => by
      rw [cell_of_row w g (off + i) cur _ (0, 0) hg, hat i hi]
      simp [byteCells, List.getD, hi]) 9 Try.underlying9
    have e : strOfNums (l.map fun b => (b.toNat : Int)) = bs l := by
      have : (l.map fun b => (b.toNat : Int)).map (fun n => UInt8.ofNat n.toNat) = l := by
        rw [List.map_map]
        exact (List.map_congr_left (fun b _ => by simp)).trans (List.map_id l)
      unfold strOfNums
      rw [this]
      rfl
    rw [e] at hr
    exact hr
theorem off_elem : Try.prog.elem 39 = 5 := by kernel_rfl
theorem off_under : Try.prog.underlying 39 = some (.slice (Try.prog.elem 39)) := by rw [off_elem]; exact Try.underlying39
theorem off_size (w : World) : (sizeOf (Try.prog.elem 39)).run Try.prog w = .ok 1 w := by
  obtain ⟨i0, hi, hz0, hz1, hz2⟩ := info_parts info_u8
  rw [off_elem]
  simp [sizeOf, typeInfo, hi, hz1]
/-- What lies behind the first k bytes. -/
theorem slice_off {w : World} {base : Nat} {v : Value} {l : List UInt8} (h : OffB w base v l) (k : Nat) (hk : k ≤ l.length) :
    ∃ v', (Instr.slice 39 v (some (.int .i64 (k : Int))) none none).run Try.prog w = .ok v' w ∧ OffB w base v' (l.drop k) ∧ v'.ownBlock = v.ownBlock := by
  rcases h with ⟨rfl, rfl⟩ | ⟨g, off, cap, cur, rfl, hbg, hg, hnc, hcm, hcs, hat⟩
  · have hr := run_slice_l (P := Try.prog) w 39 none 0 0 off_under .i64 (k : Int) (by omega) (by simp at hk; omega)
    rw [off_size] at hr
    have hk0 : k = 0 := by simpa using hk
    subst hk0
    exact ⟨_, hr, .inl ⟨rfl, rfl⟩, rfl⟩
  · have hr := run_slice_l (P := Try.prog) w 39 (some ⟨g, off, none⟩) l.length cap off_under .i64 (k : Int) (by omega) (by omega)
    rw [off_size] at hr
    refine ⟨_, hr, ?_⟩
    have hld : (l.drop k).length = l.length - k := List.length_drop
    unfold sliced
    simp only [Int.toNat_natCast]
    by_cases hc : cap = k
    · rw [if_pos hc]
      have hlk : l.length = k := by omega
      have hd : l.drop k = [] := List.drop_of_length_le (by omega)
      refine ⟨.inr ⟨g, off, cap - k, cur, by rw [hld], hbg, hg, by omega, by omega, by omega, fun j hj => ?_⟩, rfl⟩
      rw [hd] at hj
      simp at hj
    · rw [if_neg hc]
      refine ⟨.inr ⟨g, off + k, cap - k, cur, by rw [hld]; simp [Addr.add_lit], hbg, hg, by omega, by omega, by omega, fun j hj => ?_⟩, by simp [Value.ownBlock, Addr.add_lit]⟩
      rw [Nat.add_assoc, hat (k + j) (by omega)]
      simp [byteCells]
/-- The string of the first k bytes. -/
theorem front_off {w : World} {base cap : Nat} {ao : Option Addr} {l : List UInt8} (h : OffB w base (.slice ao l.length cap) l) (k : Nat) (hk : k ≤ l.length) :
    l.length ≤ cap ∧ (convert 39 9 (.slice ao k cap)).run Try.prog w = .ok (.string (bs (l.take k))) w := by
  rcases h with ⟨h1, rfl⟩ | ⟨g, off, cap', cur, h1, hbg, hg, hnc, hcm, hcs, hat⟩
  · injection h1 with h1 h2 h3
    subst h1 h3
    have hk0 : k = 0 := by simpa using hk
    subst hk0
    exact ⟨Nat.le_refl _, string_off (base := 0) (l := []) (.inl ⟨rfl, rfl⟩)⟩
  · injection h1 with h1 h2 h3
    subst h1 h3
    have hlt : (l.take k).length = k := by rw [List.length_take]; omega
    refine ⟨hnc, string_off (base := base) (l := l.take k) (.inr ⟨g, off, cap, cur, by rw [hlt], hbg, hg, by omega, hcm, hcs, fun j hj => ?_⟩)⟩
    rw [hat j (by omega)]
    simp only [byteCells, List.map_take]
    rw [List.getElem?_take_of_lt (by omega)]
end Go.Proofs.Ytlalkpgipenkaaa
