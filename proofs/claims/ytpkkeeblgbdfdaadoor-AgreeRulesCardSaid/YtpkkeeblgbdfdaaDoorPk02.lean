/- Part 2 of what the statement wants. -/
import Derived.Maps.Keyed
import Derived.DeepKeys4
import Derived.WideKeyMaps2
import Derived.KernelRfl
import Derived.Laws.Tables
import Derived.Laws.CopyOwn
import Derived.Deep.RegionHeld3
import Derived.Test.YtpkkeeblgbdfdaaDoorPk00
import Derived.Test.YtpkkeeblgbdfdaaDoorPk01
namespace Go.Proofs.YtpkkeeblgbdfdaaDoor
open Go.RowKit Go.Maps

section
variable {P : Program}
theorem mapM_some {α β : Type} {f : α → Option β} : ∀ {l : List α}, (∀ x ∈ l, ∃ y, f x = some y) → ∃ ys, l.mapM f = some ys
  | [], _ => ⟨[], rfl⟩
  | a :: r, h => by
    obtain ⟨y, hy⟩ := h a (by simp)
    obtain ⟨ys, hys⟩ := mapM_some (l := r) (fun x hx => h x (by simp [hx]))
    exact ⟨y :: ys, by simp [List.mapM_cons, hy, hys]⟩
theorem keyLits_struct {d : Nat} {t : TypeId} {cs : List Value} {fs : Array Field} (hu : P.underlying t = some (.struct fs)) (hl : cs.length = P.cellsOf t) (hn : fs.all (·.name != "_") = true)
    (hf : ∀ f ∈ fs.toList, ∃ ls, P.keyLits d f.type ((cs.drop f.offset).take (P.cellsOf f.type)) = some ls) : ∃ ls, P.keyLits (d + 1) t cs = some ls := by
  obtain ⟨ys, hys⟩ := mapM_some hf
  exact ⟨ys.flatten, by
    unfold Program.keyLits
    rw [hu]
    simp only []
    rw [if_pos ⟨hl, hn⟩, hys]
    rfl⟩
theorem keyLits_array {d : Nat} {t e : TypeId} {n : Nat} {cs : List Value} (hu : P.underlying t = some (.array n e)) (hl : cs.length = P.cellsOf t)
    (hf : ∀ i, i < n → ∃ ls, P.keyLits d e ((cs.drop (i * P.cellsOf e)).take (P.cellsOf e)) = some ls) : ∃ ls, P.keyLits (d + 1) t cs = some ls := by
  obtain ⟨ys, hys⟩ := mapM_some (f := fun i => P.keyLits d e ((cs.drop (i * P.cellsOf e)).take (P.cellsOf e))) (l := List.range n) (fun i hi => hf i (List.mem_range.1 hi))
  exact ⟨ys.flatten, by
    unfold Program.keyLits
    rw [hu]
    simp only []
    rw [if_pos hl, hys]
    rfl⟩
theorem keyLits_int {d : Nat} {t : TypeId} {q : IntKind} {n : Int} (hu : P.underlying t = some (.int q)) (h : CellOk (.int q n)) : ∃ ls, P.keyLits (d + 1) t [.int q n] = some ls :=
  ⟨[.int q n], by
    unfold Program.keyLits
    rw [hu]
    have h' : (Lit.int q n).wf = true := h
    simp [h']⟩
theorem keyLits_str {d : Nat} {t : TypeId} {s : ByteArray} (hu : P.underlying t = some .string) (h : CellOk (.string s)) : ∃ ls, P.keyLits (d + 1) t [.string s] = some ls :=
  ⟨[.string s.data.toList], by
    unfold Program.keyLits
    rw [hu]
    simp only []
    have h' : s.size ≤ maxLen := h
    rw [if_pos h']⟩
end
/-- What an event and its source have in common. -/
structure MarkV where
  ki : Int
  wh : Int
  us : ByteArray
  sv : ByteArray
  al : ByteArray
  sid : Int
  dn : DoV
deriving DecidableEq
def MarkV.row (m : MarkV) : List Value := .int .i64 m.ki :: .int .i64 m.wh :: .string m.us :: .string m.sv :: .string m.al :: .int .i64 m.sid :: m.dn.row
theorem MarkV.row_size (m : MarkV) : m.row.length = 32 := rfl
set_option maxRecDepth 100000 in
theorem cellsK_tStr : Tryd.prog.cellsOf 9 = 1 := by kernel_rfl
set_option maxRecDepth 100000 in
theorem cellsK_tInt : Tryd.prog.cellsOf 3 = 1 := by kernel_rfl
set_option maxRecDepth 100000 in
theorem cellsK_tID : Tryd.prog.cellsOf 35 = 1 := by kernel_rfl
set_option maxRecDepth 100000 in
theorem cellsK_tU32 : Tryd.prog.cellsOf 38 = 1 := by kernel_rfl
set_option maxRecDepth 100000 in
theorem cellsK_tU32s3 : Tryd.prog.cellsOf 39 = 3 := by kernel_rfl
set_option maxRecDepth 100000 in
theorem cellsK_tGroup : Tryd.prog.cellsOf 41 = 2 := by kernel_rfl
set_option maxRecDepth 100000 in
theorem cellsK_tChoice : Tryd.prog.cellsOf 37 = 8 := by kernel_rfl
set_option maxRecDepth 100000 in
theorem cellsK_tDone : Tryd.prog.cellsOf 43 = 26 := by kernel_rfl
set_option maxRecDepth 100000 in
theorem cellsK_tMark : Tryd.prog.cellsOf 82 = 32 := by kernel_rfl
set_option maxHeartbeats 1000000 in
set_option maxRecDepth 100000 in
theorem keyLits_choice (n : Nat) (d : DoV) (h : ∀ u ∈ (.string d.h0 :: .string d.h1 :: .string d.h2 :: .string d.h3 :: .string d.h4 :: .string d.h5 :: .string d.h6 :: .string d.h7 :: [] : List Value), CellOk u) : ∃ ls, Tryd.prog.keyLits (n + 2) 37 (.string d.h0 :: .string d.h1 :: .string d.h2 :: .string d.h3 :: .string d.h4 :: .string d.h5 :: .string d.h6 :: .string d.h7 :: []) = some ls := by
  refine keyLits_struct Tryd.underlying37 (by rw [cellsK_tChoice]; rfl) (by kernel_rfl) (fun f hf => ?_)
  simp only [List.mem_cons, List.not_mem_nil, or_false] at hf
  rcases hf with rfl | rfl | rfl | rfl | rfl | rfl | rfl | rfl
  · simp only [cellsK_tStr]
    exact keyLits_str Tryd.underlying9 (h _ (by simp))
  · simp only [cellsK_tStr]
    exact keyLits_str Tryd.underlying9 (h _ (by simp))
  · simp only [cellsK_tStr]
    exact keyLits_str Tryd.underlying9 (h _ (by simp))
  · simp only [cellsK_tStr]
    exact keyLits_str Tryd.underlying9 (h _ (by simp))
  · simp only [cellsK_tStr]
    exact keyLits_str Tryd.underlying9 (h _ (by simp))
  · simp only [cellsK_tStr]
    exact keyLits_str Tryd.underlying9 (h _ (by simp))
  · simp only [cellsK_tStr]
    exact keyLits_str Tryd.underlying9 (h _ (by simp))
  · simp only [cellsK_tStr]
    exact keyLits_str Tryd.underlying9 (h _ (by simp))
set_option maxHeartbeats 1000000 in
set_option maxRecDepth 100000 in
theorem keyLits_group (n : Nat) (d : DoV) (h : ∀ u ∈ (.string d.gp :: .string d.gg :: [] : List Value), CellOk u) : ∃ ls, Tryd.prog.keyLits (n + 2) 41 (.string d.gp :: .string d.gg :: []) = some ls := by
  refine keyLits_struct Tryd.underlying41 (by rw [cellsK_tGroup]; rfl) (by kernel_rfl) (fun f hf => ?_)
  simp only [List.mem_cons, List.not_mem_nil, or_false] at hf
  rcases hf with rfl | rfl
  · simp only [cellsK_tStr]
    exact keyLits_str Tryd.underlying9 (h _ (by simp))
  · simp only [cellsK_tStr]
    exact keyLits_str Tryd.underlying9 (h _ (by simp))
set_option maxRecDepth 100000 in
theorem keyLits_u32s3 (n : Nat) (d : DoV) (h : ∀ u ∈ (.int .u32 (d.w0 : Int) :: .int .u32 (d.w1 : Int) :: .int .u32 (d.w2 : Int) :: [] : List Value), CellOk u) : ∃ ls, Tryd.prog.keyLits (n + 2) 39 (.int .u32 (d.w0 : Int) :: .int .u32 (d.w1 : Int) :: .int .u32 (d.w2 : Int) :: []) = some ls := by
  refine keyLits_array Tryd.underlying39 (by rw [cellsK_tU32s3]; rfl) (fun i hi => ?_)
  rw [cellsK_tU32]
  match i, hi with
  | 0, _ => exact keyLits_int Tryd.underlying38 (h _ (by simp))
  | 1, _ => exact keyLits_int Tryd.underlying38 (h _ (by simp))
  | 2, _ => exact keyLits_int Tryd.underlying38 (h _ (by simp))
set_option maxHeartbeats 2000000 in
set_option maxRecDepth 100000 in
theorem keyLits_done (n : Nat) (d : DoV) (h : ∀ u ∈ d.row, CellOk u) : ∃ ls, Tryd.prog.keyLits (n + 3) 43 d.row = some ls := by
  unfold DoV.row at h
  refine keyLits_struct Tryd.underlying43 (by rw [cellsK_tDone]; rfl) (by kernel_rfl) (fun f hf => ?_)
  simp only [List.mem_cons, List.not_mem_nil, or_false] at hf
  rcases hf with rfl | rfl | rfl | rfl | rfl | rfl | rfl | rfl | rfl | rfl | rfl | rfl | rfl | rfl | rfl | rfl
  · simp only [cellsK_tStr]
    exact keyLits_str Tryd.underlying9 (h _ (by simp))
  · simp only [cellsK_tStr]
    exact keyLits_str Tryd.underlying9 (h _ (by simp))
  · simp only [cellsK_tStr]
    exact keyLits_str Tryd.underlying9 (h _ (by simp))
  · simp only [cellsK_tStr]
    exact keyLits_str Tryd.underlying9 (h _ (by simp))
  · simp only [cellsK_tChoice]
    exact keyLits_choice n d (fun u hu => h u (by simp only [List.mem_cons, List.not_mem_nil, or_false] at hu ⊢; rcases hu with rfl | rfl | rfl | rfl | rfl | rfl | rfl | rfl <;> simp))
  · simp only [cellsK_tInt]
    exact keyLits_int Tryd.underlying3 (h _ (by simp))
  · simp only [cellsK_tU32s3]
    exact keyLits_u32s3 n d (fun u hu => h u (by simp only [List.mem_cons, List.not_mem_nil, or_false] at hu ⊢; rcases hu with rfl | rfl | rfl <;> simp))
  · simp only [cellsK_tGroup]
    exact keyLits_group n d (fun u hu => h u (by simp only [List.mem_cons, List.not_mem_nil, or_false] at hu ⊢; rcases hu with rfl | rfl <;> simp))
  · simp only [cellsK_tID]
    exact keyLits_int Tryd.underlying35 (h _ (by simp))
  · simp only [cellsK_tID]
    exact keyLits_int Tryd.underlying35 (h _ (by simp))
  · simp only [cellsK_tID]
    exact keyLits_int Tryd.underlying35 (h _ (by simp))
  · simp only [cellsK_tID]
    exact keyLits_int Tryd.underlying35 (h _ (by simp))
  · simp only [cellsK_tID]
    exact keyLits_int Tryd.underlying35 (h _ (by simp))
  · simp only [cellsK_tID]
    exact keyLits_int Tryd.underlying35 (h _ (by simp))
  · simp only [cellsK_tID]
    exact keyLits_int Tryd.underlying35 (h _ (by simp))
  · simp only [cellsK_tID]
    exact keyLits_int Tryd.underlying35 (h _ (by simp))
set_option maxHeartbeats 1000000 in
set_option maxRecDepth 100000 in
theorem keyLits_mark (n : Nat) (m : MarkV) (h : ∀ u ∈ m.row, CellOk u) : ∃ ls, Tryd.prog.keyLits (n + 4) 82 m.row = some ls := by
  have hd : ∀ u ∈ m.dn.row, CellOk u := fun u hu => h u (by unfold MarkV.row; simp [hu])
  refine keyLits_struct Tryd.underlying82 (by rw [cellsK_tMark]; rfl) (by kernel_rfl) (fun f hf => ?_)
  unfold MarkV.row at h ⊢
  simp only [List.mem_cons, List.not_mem_nil, or_false] at hf
  rcases hf with rfl | rfl | rfl | rfl | rfl | rfl | rfl
  · simp only [cellsK_tInt]
    exact keyLits_int Tryd.underlying3 (h _ (by simp))
  · simp only [cellsK_tInt]
    exact keyLits_int Tryd.underlying3 (h _ (by simp))
  · simp only [cellsK_tStr]
    exact keyLits_str Tryd.underlying9 (h _ (by simp))
  · simp only [cellsK_tStr]
    exact keyLits_str Tryd.underlying9 (h _ (by simp))
  · simp only [cellsK_tStr]
    exact keyLits_str Tryd.underlying9 (h _ (by simp))
  · simp only [cellsK_tID]
    exact keyLits_int Tryd.underlying35 (h _ (by simp))
  · simp only [cellsK_tDone]
    exact keyLits_done n m.dn hd
theorem laidOut32 : laidOutB Tryd.prog = true := by kernel_rfl
theorem rowMark : (82 : TypeId) < Tryd.prog.types.size := of_decide_eq_true (by kernel_rfl)
theorem deepMark : Tryd.prog.keyTypeAt 4 82 = true := by kernel_rfl
theorem lawMark : Keyed Tryd.prog 82 := Keyed.of_law (deep_law_laid laidOut32 (m := 4) (by omega) rowMark deepMark (by rw [Tryd.underlying82]))
theorem keyTypeMark : Tryd.prog.keyType 82 = true := by kernel_rfl
theorem fuelMark : ∃ n, Tryd.prog.types.size = n + 3 := ⟨Tryd.prog.types.size - 3, by have : 3 ≤ Tryd.prog.types.size := of_decide_eq_true (by kernel_rfl); omega⟩
theorem keyOf_mark (m : MarkV) (h : ∀ u ∈ m.row, CellOk u) : ∃ l, keyOf Tryd.prog 82 (.agg m.row.toArray) = some l := by
  obtain ⟨n, hn⟩ := fuelMark
  obtain ⟨ls, hls⟩ := keyLits_mark n m h
  have hf : (Value.agg m.row.toArray).formed Tryd.prog 82 = true := by
    simp only [Value.formed, Tryd.underlying82, cellsK_tMark]
    rfl
  unfold keyOf
  rw [Tryd.underlying82]
  simp only [keyTypeMark, hf, Bool.and_self, if_true, hn]
  exact ⟨_, by rw [show (Value.agg m.row.toArray).cells.toList = m.row by simp [Value.cells], hls]; rfl⟩
end Go.Proofs.YtpkkeeblgbdfdaaDoor

namespace Go.Proofs.YtpkkeeblgbdfdaaDoor
open Go.RowKit

/-- A whole store into a block that is new. -/
theorem alloc_setRow (w : World) (Z R : Array Value) (t : TypeId) {N : Nat} (hN : N = w.heap.size) : (w.alloc (.cells Z t)).setRow N R = w.alloc (.cells R t) := by
  subst hN
  have e : ((w.heap.push (.cells Z t)).modify w.heap.size fun
      | .cells _ elem frozen => .cells R elem frozen
      | o => o) = w.heap.push (.cells R t) := by
    apply Array.ext_getElem?
    intro i
    rw [Array.getElem?_modify]
    by_cases h : w.heap.size = i
    · subst h
      simp
    · rw [if_neg h, Array.getElem?_push, Array.getElem?_push, if_neg (fun e => h e.symm), if_neg (fun e => h e.symm)]
  exact congrArg (fun h => ({ w with heap := h } : World)) e
theorem new_row (w : World) (Z : Array Value) (t : TypeId) {N : Nat} (hN : N = w.heap.size) : (w.alloc (.cells Z t)).heap[N]? = some (.cells Z t (0, 0)) := by
  subst hN
  exact heap_alloc_new w _
theorem wpList_store_new {P : Program} {ops : Array Oper} {rest : List Oper} {o : Oper} {a : Act} {w : World} {Q : Exit → Act → World → Prop} (hgd : o.guard = none) (ty : TypeId) (x y : Operand) (ho : o.op = .store ty x y)
    (N : Nat) (Z R : Array Value) (t : TypeId) (hx : a.eval x = .pointer (some ⟨N, 0, none⟩)) (hy : a.eval y = .agg R) (hN : N = w.heap.size) (hi : (P.info? ty).map (·.size) = some R.size)
    (hold : Z.size = R.size) (h1 : R.all (·.oneCell') = true) (h : wpList P ops Q rest (a.put o.dst undef) (w.alloc (.cells R t))) : wpList P ops Q (o :: rest) a (w.alloc (.cells Z t)) :=
  wpList_store_row hgd ty x y ho N R hx hy t Z (new_row w Z t hN) hi hold h1 (by rw [alloc_setRow w Z R t hN]; exact h)
theorem wpList_build_as {P : Program} {ops : Array Oper} {rest : List Oper} {o : Oper} {a : Act} {w : World} {Q : Exit → Act → World → Prop} (hg : o.guard = none) (t : TypeId) (parts : Array (Nat × Operand)) (ho : o.op = .build t parts) (row : Array Value)
    (hf : P.built t (parts.map fun (i, x) => (i, a.eval x)).toList = some row)
    (h : wpList P ops Q rest (a.put o.dst (.agg row)) w) : wpList P ops Q (o :: rest) a w :=
  wpList_build hg t parts ho (by rw [hf]; rfl) (by rw [hf]; exact h)
end Go.Proofs.YtpkkeeblgbdfdaaDoor

namespace Go.Proofs.YtpkkeeblgbdfdaaDoor
open Go.RowKit


theorem first2_row (w : World) (Z : Array Value) (t : TypeId) (o : Obj) {N : Nat} (hN : N = w.heap.size) : ((w.alloc (.cells Z t)).alloc o).heap[N]? = some (.cells Z t (0, 0)) := by
  subst hN
  exact (((Below.refl _ (w.alloc (.cells Z t))).alloc (Nat.le_refl _) o).block w.heap.size (by simp only [World.size_alloc]; omega)).trans (heap_alloc_new w _)
theorem last2_row (w : World) (Z : Array Value) (t : TypeId) (o : Obj) {N : Nat} (hN : N = w.heap.size + 1) : ((w.alloc o).alloc (.cells Z t)).heap[N]? = some (.cells Z t (0, 0)) := new_row _ Z t (by rw [World.size_alloc]; exact hN)
theorem cell_heap {w : World} {b : Nat} {C : Array Value} {t : TypeId} (h : w.heap[b]? = some (.cells C t (0, 0))) (j : Nat) : w.cell? ⟨b, j, none⟩ = C[j]? := by
  have H : Holds w b t C := h
  exact H.cell j
/-- A guarded load of a whole row, where it is wanted. -/
theorem wpList_load_row_on {P : Program} {ops : Array Oper} {rest : List Oper} {o : Oper} {a : Act} {w : World} {Q : Exit → Act → World → Prop} (hw : Region.wanted o (yielded ops a.tmps) = true) (ty : TypeId) (x : Operand) (ho : o.op = .load ty x)
    (g : Nat) (hx : a.eval x = .pointer (some ⟨g, 0, none⟩)) (t : TypeId) (cs : Array Value) (fr : Nat × Nat) (d : TypeDesc) (hg : w.heap[g]? = some (.cells cs t fr))
    (hu : P.underlying ty = some d) (hd : (match d with | .struct _ | .array _ _ => true | _ => false) = true) (hi : (P.info? ty).map (·.size) = some cs.size)
    (h : wpList P ops Q rest (a.put o.dst (.agg cs)) w) : wpList P ops Q (o :: rest) a w := by
  simp only [wpList, hw]
  exact Or.inl (wp_load_row ty x ho g hx t cs fr d hg hu hd hi h)
end Go.Proofs.YtpkkeeblgbdfdaaDoor
