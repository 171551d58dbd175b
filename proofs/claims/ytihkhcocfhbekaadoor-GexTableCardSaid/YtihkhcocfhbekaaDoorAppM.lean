/- A row of bytes of the call's own, whose frozen stretch, if there is one, holds none of its cells ([]byte of a string lays such a one): what is appended to it, and the string that is made of it. -/
import Derived.Test.YtihkhcocfhbekaaDoorConvB
import Derived.Lib.AppendStr
namespace Go.Proofs.YtihkhcocfhbekaaDoor
open Go.RowKit

def rowPut : Array Value → Nat → List Value → Array Value
  | cur, _, [] => cur
  | cur, k, v :: vs => rowPut (cur.setIfInBounds k v) (k + 1) vs
theorem rowPut_size : ∀ (vs : List Value) (cur : Array Value) (k : Nat), (rowPut cur k vs).size = cur.size
  | [], _, _ => rfl
  | v :: vs, cur, k => by
    unfold rowPut
    rw [rowPut_size vs]
    simp
theorem rowPut_low : ∀ (vs : List Value) (cur : Array Value) (k j : Nat), j < k → (rowPut cur k vs)[j]? = cur[j]?
  | [], _, _, _, _ => rfl
  | v :: vs, cur, k, j, h => by
    unfold rowPut
    rw [rowPut_low vs _ _ j (by omega), Array.getElem?_setIfInBounds]
    rw [if_neg (by omega)]
theorem rowPut_at : ∀ (vs : List Value) (cur : Array Value) (k i : Nat), k + vs.length ≤ cur.size → i < vs.length → (rowPut cur k vs)[k + i]? = vs[i]?
  | [], _, _, _, _, h => by simp at h
  | v :: vs, cur, k, 0, hk, _ => by
    unfold rowPut
    simp only [List.length_cons] at hk
    show (rowPut (cur.setIfInBounds k v) (k + 1) vs)[k]? = some v
    rw [rowPut_low vs _ _ k (by omega), Array.getElem?_setIfInBounds, if_pos rfl, if_pos (by omega)]
  | v :: vs, cur, k, i + 1, hk, h => by
    unfold rowPut
    simp only [List.length_cons] at hk h
    have := rowPut_at vs (cur.setIfInBounds k v) (k + 1) i (by simp; omega) (by omega)
    rw [show k + (i + 1) = k + 1 + i by omega, this]
    simp

theorem store_row (g n : Nat) (t : TypeId) (m : Nat × Nat) : ∀ (vs : List Value) (i : Nat) (cur : Array Value) (w : World), w.heap[g]? = some (.cells cur t m) → (∀ j, j < cur.size → ¬ (m.1 ≤ j ∧ j < m.2)) → n + i + vs.length ≤ cur.size → (∀ v ∈ vs, v.oneCell' = true) →
    (storeCells ⟨g, n, none⟩ vs i).run Tryd.prog w = .ok () (w.setRow g (rowPut cur (n + i) vs))
  | [], i, cur, w, hg, _, _, _ => by
    unfold rowPut storeCells
    rw [setRow_self w g cur t m hg]
    rfl
  | v :: vs, i, cur, w, hg, hm, hl, h1 => by
    simp only [List.length_cons] at hl
    have hlt : n + i < cur.size := by omega
    have ha : (⟨g, n, none⟩ : Addr).add i = ⟨g, n + i, none⟩ := Addr.add_lit ..
    have hc : w.cell? ⟨g, n + i, none⟩ = some cur[n + i] := by unfold World.cell?; simp [hg, hlt]
    have hf : w.frozen? ⟨g, n + i, none⟩ = false := by
      have h2 := hm (n + i) hlt
      unfold World.frozen?
      simp only [hg]
      rw [Bool.eq_false_iff]
      simp only [ne_eq, Bool.and_eq_true, decide_eq_true_eq]
      exact h2
    have hs : (store ((⟨g, n, none⟩ : Addr).add i) v).run Tryd.prog w = .ok () (w.setRow g (cur.setIfInBounds (n + i) v)) := by
      rw [ha, run_store Tryd.prog w _ v _ (h1 v (by simp)), hc]
      simp [hf, setCell_eq_setRow w g (n + i) cur t m v hg]
    have hr := store_row g n t m vs (i + 1) (cur.setIfInBounds (n + i) v) (w.setRow g (cur.setIfInBounds (n + i) v)) (setRow_heap w g cur _ t m hg) (fun j hj => hm j (by simpa using hj)) (by simp; omega) (fun x hx => h1 x (by simp [hx]))
    unfold rowPut
    simp only [storeCells, Sem.run_bind, hs, Result.andThen_ok, hr, setRow_setRow, Nat.add_assoc]

/-- The slice v is a row of the call's own that holds these bytes. -/
def OwnB (w : World) (base : Nat) (v : Value) (l : List UInt8) : Prop :=
  ∃ g cap cur m, v = .slice (some ⟨g, 0, none⟩) l.length cap ∧ base ≤ g ∧ w.heap[g]? = some (.cells cur 5 m) ∧ (∀ j, j < cur.size → ¬ (m.1 ≤ j ∧ j < m.2)) ∧ l.length ≤ cap ∧ cap ≤ maxLen ∧ cur.size = cap ∧
    ∀ j, j < l.length → cur[j]? = (byteCells l)[j]?
theorem OwnB.block {w : World} {base : Nat} {v : Value} {l : List UInt8} (h : OwnB w base v l) : ∃ g c, v = .slice (some ⟨g, 0, none⟩) l.length c ∧ base ≤ g ∧ g < w.heap.size := by
  obtain ⟨g, cap, cur, m, rfl, hb, hg, _⟩ := h
  exact ⟨g, cap, rfl, hb, (Array.getElem?_eq_some_iff.1 hg).1⟩
theorem OwnB.moves {S : Nat → Prop} {w w' : World} {base : Nat} {v : Value} {l : List UInt8} (h : OwnB w base v l) (m : Moves S w w') (hS : ∀ k, v.ownBlock = some k → ¬ S k) : OwnB w' base v l := by
  obtain ⟨g, cap, cur, mk, rfl, hb, hg, rest⟩ := h
  exact ⟨g, cap, cur, mk, rfl, hb, (m.block g (Array.getElem?_eq_some_iff.1 hg).1 (hS g rfl)).trans hg, rest⟩
theorem OwnB.below {w w' : World} {base : Nat} {v : Value} {l : List UInt8} (h : OwnB w base v l) (b : Below w.heap.size w w') : OwnB w' base v l :=
  h.moves (S := nobody) (Moves.ofBelow b) fun _ _ h => h
/-- []byte of a string. -/
theorem conv_own (W : World) (l : List UInt8) (hl : l.length ≤ 1000000000) : ∃ c W', (convert 9 85 (.string (bs l))).run Tryd.prog W = .ok (.slice (some ⟨W.heap.size, 0, none⟩) l.length c) W' ∧
    OwnB W' W.heap.size (.slice (some ⟨W.heap.size, 0, none⟩) l.length c) l ∧ Below W.heap.size W W' ∧ W'.heap.size = W.heap.size + 1 := by
  have h := run_bytes_of_string (P := Tryd.prog) W 9 85 5 (bs l) Tryd.underlying9 Tryd.underlying85 Tryd.underlying5
  rw [bs_size] at h
  have hge := grownCap_ge W l.length 0 5
  have hle : grownCap W l.length 0 5 ≤ maxLen := grownCap_le_maxLen W l.length 0 5 (by unfold maxLen; omega)
  have hsz : (bytesRow (bs l) (grownCap W l.length 0 5)).size = grownCap W l.length 0 5 := by
    unfold bytesRow
    rw [Array.size_append, Array.size_map, Array.size_replicate, bs_size]
    have : (bs l).data.size = l.length := bs_size l
    omega
  refine ⟨_, _, h, ⟨_, _, _, _, rfl, Nat.le_refl _, heap_alloc_new W.drew _, fun j hj => ?_, hge, hle, hsz, fun j hj => ?_⟩, (Below.refl _ _).drew.alloc (Nat.le_refl _) _, by simp⟩
  · simp only; omega
  · unfold bytesRow byteCells
    rw [Array.getElem?_append_left (by rw [Array.size_map]; exact Nat.lt_of_lt_of_le hj (Nat.le_of_eq (bs_size l).symm))]
    simp [bs]
theorem strCells_bs (l : List UInt8) : Lib.strCells (bs l) = byteCells l := rfl
/-- append of a string's bytes. -/
theorem append_own {w : World} {base : Nat} {v : Value} {l : List UInt8} (hown : OwnB w base v l) (s : List UInt8) (hn : l.length + s.length ≤ 1000000000) (hb : base ≤ w.heap.size) :
    ∃ v' w', (Builtin.append_ #[85, 9] 85 #[v, .string (bs s)]).run Tryd.prog w = .ok v' w' ∧ OwnB w' base v' (l ++ s) ∧ w.grownBy w' v.ownBlock := by
  obtain ⟨i0, hi, hz0, hz1, hz2⟩ := info_parts info_u8
  obtain ⟨g, cap, cur, m, rfl, hbg, hg, hm, hnc, hcm, hcs, hat⟩ := hown
  have hss := bs_size s
  have hll : (l ++ s).length = l.length + s.length := List.length_append
  have hbl := byteCells_length l
  have hbs := byteCells_length s
  by_cases hroom : l.length + s.length ≤ cap
  · have hf := Lib.run_firstCells_string (P := Tryd.prog) w 1 (bs s)
    have hst := store_row g l.length 5 m (byteCells s) 0 cur w hg hm (by omega) (byteCells_one s)
    rw [← strCells_bs] at hst
    have hr : (Builtin.append_ #[85, 9] 85 #[.slice (some ⟨g, 0, none⟩) l.length cap, .string (bs s)]).run Tryd.prog w = .ok (.slice (some ⟨g, 0, none⟩) (l.length + s.length) cap) (w.setRow g (rowPut cur l.length (byteCells s))) := by
      have hroom' : l.length + (bs s).size ≤ cap := by omega
      simp [Builtin.append_, run_underlying Tryd.underlying85, run_underlying Tryd.underlying9, sizeOf, typeInfo, hi, hz1, Builtin.lenOf, hroom', hf, Addr.add_lit, hst]
      exact ⟨hss, by rw [strCells_bs]⟩
    refine ⟨_, _, hr, ⟨g, cap, _, m, by rw [hll], hbg, setRow_heap w g cur _ _ m hg, fun j hj => hm j (by rwa [rowPut_size] at hj), by omega, hcm, by rw [rowPut_size]; exact hcs, fun j hj => ?_⟩, ⟨rfl, rfl, rfl, by simp [World.setRow], fun k _ hk => setRow_other w g k _ (fun e => hk (by simp [Value.ownBlock, e]))⟩⟩
    rw [byteCells_append]
    by_cases hj2 : j < l.length
    · rw [rowPut_low _ _ _ _ hj2, hat j hj2, List.getElem?_append_left (by omega)]
    · have := rowPut_at (byteCells s) cur l.length (j - l.length) (by omega) (by omega)
      rw [show l.length + (j - l.length) = j by omega] at this
      rw [this, List.getElem?_append_right (by omega), hbl]
  · have hr := Lib.run_append_grow_string (P := Tryd.prog) w 85 9 85 5 i0 (.int .u8 0) Tryd.underlying85 Tryd.underlying9 hi hz0 ⟨g, 0, none⟩ l.length cap (byteCells l) (by rw [hz1, Nat.mul_one]; exact hbl) (fun j u hu => by
      have hj : j < l.length := by have := (List.getElem?_eq_some_iff.1 hu).1; omega
      rw [Addr.add_lit, Nat.zero_add, cell_of_row w g j cur _ m hg, hat j hj, hu]) (bs s) (by omega) (by omega) (by rw [hz2]; exact growslice_fits (by omega) (by omega))
    have hge := grownCap_ge w (l.length + (bs s).size) cap 5
    have hle : grownCap w (l.length + (bs s).size) cap 5 ≤ maxLen := grownCap_le_maxLen w (l.length + (bs s).size) cap 5 (by unfold maxLen; omega)
    have hzc : (Value.int IntKind.u8 0).cells.size = 1 := rfl
    have hcz : ((byteCells l).toArray ++ (Lib.strCells (bs s)).toArray ++ Builtin.zeroCells (Value.int IntKind.u8 0).cells (grownCap w (l.length + (bs s).size) cap 5 - (l.length + (bs s).size))).size = grownCap w (l.length + (bs s).size) cap 5 := by
      simp only [Array.size_append, List.size_toArray, size_zeroCells, hzc, hbl, strCells_bs, hbs]
      omega
    refine ⟨_, _, hr, ⟨w.heap.size, _, _, (0, 0), by rw [hll, hss], hb, heap_alloc_new w.drew _, fun j _ h => by simp at h, by omega, hle, hcz, fun j hj => ?_⟩, ⟨rfl, rfl, rfl, by simp, fun k hk _ => Below.heap_alloc w.drew _ k hk⟩⟩
    rw [strCells_bs, byteCells_append, Array.getElem?_append_left (by simp only [Array.size_append, List.size_toArray]; omega)]
    simp
set_option maxRecDepth 10000 in
/-- string of such a row. -/
theorem string_own {w : World} {base g n cap : Nat} {l : List UInt8} (h : OwnB w base (.slice (some ⟨g, 0, none⟩) n cap) l) : (convert 85 9 (.slice (some ⟨g, 0, none⟩) n cap)).run Tryd.prog w = .ok (.string (bs l)) w := by
  obtain ⟨g', cap', cur, m, hv, hb, hg, hm, hnc, hcm, hcs, hat⟩ := h
  injection hv with h1 h2 h3
  injection h1 with h1
  injection h1 with h1
  subst h1 h2 h3
  have hr := run_convert_bytes_arg (P := Tryd.prog) w 85 5 Tryd.underlying85 Tryd.underlying5 g 0 l.length cap (l.map fun b => (b.toNat : Int)) (by simp) (fun i hi => by
    rw [Nat.zero_add, cell_of_row w g i cur _ m hg, hat i hi]
    simp [byteCells, List.getD, hi]) 9 Tryd.underlying9
  have e : strOfNums (l.map fun b => (b.toNat : Int)) = bs l := by
    have : (l.map fun b => (b.toNat : Int)).map (fun n => UInt8.ofNat n.toNat) = l := by
      rw [List.map_map]
      exact (List.map_congr_left (fun b _ => by simp)).trans (List.map_id l)
    unfold strOfNums
    rw [this]
    rfl
  rw [e] at hr
  exact hr
end Go.Proofs.YtihkhcocfhbekaaDoor
