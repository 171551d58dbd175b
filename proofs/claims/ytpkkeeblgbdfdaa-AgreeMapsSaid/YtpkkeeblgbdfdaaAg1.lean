/- Layer 32: marks as keys of a map. -/
import Derived.Test.YtpkkeeblgbdfdaaEv0
import Derived.Maps.Keyed
import Derived.DeepKeys4
import Derived.WideKeyMaps2
import Derived.KernelRfl
namespace Go.Proofs.Ytpkkeeblgbdfdaa
open Go.RowKit Go.Maps

section
variable {P : Program}
theorem mapM_some {α β : Type} {f : α → Option β} : ∀ {l : List α}, (∀ x ∈ l, ∃ y, f x = some y) → ∃ ys, l.mapM f = some ys
  | [], _ => ⟨[], rfl⟩
  | a :: r, h => by
    obtain ⟨y, hy⟩ := h a (by simp)
    obtain ⟨ys, hys⟩ := mapM_some (l := r) (fun x hx => h x (by simp [hx]))
    exact ⟨y :: ys, by simp [List.mapM_cons, hy, hys]⟩
theorem keyLits_struct {d : Nat} {t : TypeId} {cs : List Value} {fs : Array Field} (hu : P.underlying t = some (.struct fs)) (hl : cs.length = P.cellsOf t) (hn : fs.all (·.name != "_") = true)
    (hf : ∀ f ∈ fs.toList, ∃ ls, P.keyLits d f.type ((cs.drop f.offset).take (P.cellsOf f.type)) = some ls) : ∃ ls, P.keyLits (d + 1) t cs = some ls := by
  obtain ⟨ys, hys⟩ := mapM_some hf
  exact ⟨ys.flatten, by
    unfold Program.keyLits
    rw [hu]
    simp only []
    rw [if_pos ⟨hl, hn⟩, hys]
    rfl⟩
theorem keyLits_array {d : Nat} {t e : TypeId} {n : Nat} {cs : List Value} (hu : P.underlying t = some (.array n e)) (hl : cs.length = P.cellsOf t)
    (hf : ∀ i, i < n → ∃ ls, P.keyLits d e ((cs.drop (i * P.cellsOf e)).take (P.cellsOf e)) = some ls) : ∃ ls, P.keyLits (d + 1) t cs = some ls := by
  obtain ⟨ys, hys⟩ := mapM_some (f := fun i => P.keyLits d e ((cs.drop (i * P.cellsOf e)).take (P.cellsOf e))) (l := List.range n) (fun i hi => hf i (List.mem_range.1 hi))
  exact ⟨ys.flatten, by
    unfold Program.keyLits
    rw [hu]
    simp only []
    rw [if_pos hl, hys]
    rfl⟩
theorem keyLits_int {d : Nat} {t : TypeId} {q : IntKind} {n : Int} (hu : P.underlying t = some (.int q)) (h : CellOk (.int q n)) : ∃ ls, P.keyLits (d + 1) t [.int q n] = some ls :=
  ⟨[.int q n], by
    unfold Program.keyLits
    rw [hu]
    have h' : (Lit.int q n).wf = true := h
    simp [h']⟩
theorem keyLits_str {d : Nat} {t : TypeId} {s : ByteArray} (hu : P.underlying t = some .string) (h : CellOk (.string s)) : ∃ ls, P.keyLits (d + 1) t [.string s] = some ls :=
  ⟨[.string s.data.toList], by
    unfold Program.keyLits
    rw [hu]
    simp only []
    have h' : s.size ≤ maxLen := h
    rw [if_pos h']⟩
end
/-- What an event and its source have in common. -/
structure MarkV where
  ki : Int
  wh : Int
  us : ByteArray
  sv : ByteArray
  al : ByteArray
  sid : Int
  dn : DoV
deriving DecidableEq
def MarkV.row (m : MarkV) : List Value := .int .i64 m.ki :: .int .i64 m.wh :: .string m.us :: .string m.sv :: .string m.al :: .int .i64 m.sid :: m.dn.row
theorem MarkV.row_size (m : MarkV) : m.row.length = 32 := rfl
set_option maxRecDepth 100000 in
theorem cellsK_tStr : Try.prog.cellsOf 9 = 1 := by kernel_rfl
set_option maxRecDepth 100000 in
theorem cellsK_tInt : Try.prog.cellsOf 3 = 1 := by kernel_rfl
set_option maxRecDepth 100000 in
theorem cellsK_tID : Try.prog.cellsOf 27 = 1 := by kernel_rfl
set_option maxRecDepth 100000 in
theorem cellsK_tU32 : Try.prog.cellsOf 30 = 1 := by kernel_rfl
set_option maxRecDepth 100000 in
theorem cellsK_tU32s3 : Try.prog.cellsOf 31 = 3 := by kernel_rfl
set_option maxRecDepth 100000 in
theorem cellsK_tGroup : Try.prog.cellsOf 33 = 2 := by kernel_rfl
set_option maxRecDepth 100000 in
theorem cellsK_tChoice : Try.prog.cellsOf 29 = 8 := by kernel_rfl
set_option maxRecDepth 100000 in
theorem cellsK_tDone : Try.prog.cellsOf 35 = 26 := by kernel_rfl
set_option maxRecDepth 100000 in
theorem cellsK_tMark : Try.prog.cellsOf 63 = 32 := by kernel_rfl
set_option maxHeartbeats 1000000 in
set_option maxRecDepth 100000 in
theorem keyLits_choice (n : Nat) (d : DoV) (h : ∀ u ∈ (.string d.h0 :: .string d.h1 :: .string d.h2 :: .string d.h3 :: .string d.h4 :: .string d.h5 :: .string d.h6 :: .string d.h7 :: [] : List Value), CellOk u) : ∃ ls, Try.prog.keyLits (n + 2) 29 (.string d.h0 :: .string d.h1 :: .string d.h2 :: .string d.h3 :: .string d.h4 :: .string d.h5 :: .string d.h6 :: .string d.h7 :: []) = some ls := by
  refine keyLits_struct Try.underlying29 (by rw [cellsK_tChoice]; rfl) (by kernel_rfl) (fun f hf => ?_)
  simp only [List.mem_cons, List.not_mem_nil, or_false] at hf
  rcases hf with rfl | rfl | rfl | rfl | rfl | rfl | rfl | rfl
  · simp only [cellsK_tStr]
    exact keyLits_str Try.underlying9 (h _ (by simp))
  · simp only [cellsK_tStr]
    exact keyLits_str Try.underlying9 (h _ (by simp))
  · simp only [cellsK_tStr]
    exact keyLits_str Try.underlying9 (h _ (by simp))
  · simp only [cellsK_tStr]
    exact keyLits_str Try.underlying9 (h _ (by simp))
  · simp only [cellsK_tStr]
    exact keyLits_str Try.underlying9 (h _ (by simp))
  · simp only [cellsK_tStr]
    exact keyLits_str Try.underlying9 (h _ (by simp))
  · simp only [cellsK_tStr]
    exact keyLits_str Try.underlying9 (h _ (by simp))
  · simp only [cellsK_tStr]
    exact keyLits_str Try.underlying9 (h _ (by simp))
set_option maxHeartbeats 1000000 in
set_option maxRecDepth 100000 in
theorem keyLits_group (n : Nat) (d : DoV) (h : ∀ u ∈ (.string d.gp :: .string d.gg :: [] : List Value), CellOk u) : ∃ ls, Try.prog.keyLits (n + 2) 33 (.string d.gp :: .string d.gg :: []) = some ls := by
  refine keyLits_struct Try.underlying33 (by rw [cellsK_tGroup]; rfl) (by kernel_rfl) (fun f hf => ?_)
  simp only [List.mem_cons, List.not_mem_nil, or_false] at hf
  rcases hf with rfl | rfl
  · simp only [cellsK_tStr]
    exact keyLits_str Try.underlying9 (h _ (by simp))
  · simp only [cellsK_tStr]
    exact keyLits_str Try.underlying9 (h _ (by simp))
set_option maxRecDepth 100000 in
theorem keyLits_u32s3 (n : Nat) (d : DoV) (h : ∀ u ∈ (.int .u32 (d.w0 : Int) :: .int .u32 (d.w1 : Int) :: .int .u32 (d.w2 : Int) :: [] : List Value), CellOk u) : ∃ ls, Try.prog.keyLits (n + 2) 31 (.int .u32 (d.w0 : Int) :: .int .u32 (d.w1 : Int) :: .int .u32 (d.w2 : Int) :: []) = some ls := by
  refine keyLits_array Try.underlying31 (by rw [cellsK_tU32s3]; rfl) (fun i hi => ?_)
  rw [cellsK_tU32]
  match i, hi with
  | 0, _ => exact keyLits_int Try.underlying30 (h _ (by simp))
  | 1, _ => exact keyLits_int Try.underlying30 (h _ (by simp))
  | 2, _ => exact keyLits_int Try.underlying30 (h _ (by simp))
set_option maxHeartbeats 2000000 in
set_option maxRecDepth 100000 in
theorem keyLits_done (n : Nat) (d : DoV) (h : ∀ u ∈ d.row, CellOk u) : ∃ ls, Try.prog.keyLits (n + 3) 35 d.row = some ls := by
  unfold DoV.row at h
  refine keyLits_struct Try.underlying35 (by rw [cellsK_tDone]; rfl) (by kernel_rfl) (fun f hf => ?_)
  simp only [List.mem_cons, List.not_mem_nil, or_false] at hf
  rcases hf with rfl | rfl | rfl | rfl | rfl | rfl | rfl | rfl | rfl | rfl | rfl | rfl | rfl | rfl | rfl | rfl
  · simp only [cellsK_tStr]
    exact keyLits_str Try.underlying9 (h _ (by simp))
  · simp only [cellsK_tStr]
    exact keyLits_str Try.underlying9 (h _ (by simp))
  · simp only [cellsK_tStr]
    exact keyLits_str Try.underlying9 (h _ (by simp))
  · simp only [cellsK_tStr]
    exact keyLits_str Try.underlying9 (h _ (by simp))
  · simp only [cellsK_tChoice]
    exact keyLits_choice n d (fun u hu => h u (by simp only [List.mem_cons, List.not_mem_nil, or_false] at hu ⊢; rcases hu with rfl | rfl | rfl | rfl | rfl | rfl | rfl | rfl <;> simp))
  · simp only [cellsK_tInt]
    exact keyLits_int Try.underlying3 (h _ (by simp))
  · simp only [cellsK_tU32s3]
    exact keyLits_u32s3 n d (fun u hu => h u (by simp only [List.mem_cons, List.not_mem_nil, or_false] at hu ⊢; rcases hu with rfl | rfl | rfl <;> simp))
  · simp only [cellsK_tGroup]
    exact keyLits_group n d (fun u hu => h u (by simp only [List.mem_cons, List.not_mem_nil, or_false] at hu ⊢; rcases hu with rfl | rfl <;> simp))
  · simp only [cellsK_tID]
    exact keyLits_int Try.underlying27 (h _ (by simp))
  · simp only [cellsK_tID]
    exact keyLits_int Try.underlying27 (h _ (by simp))
  · simp only [cellsK_tID]
    exact keyLits_int Try.underlying27 (h _ (by simp))
  · simp only [cellsK_tID]
    exact keyLits_int Try.underlying27 (h _ (by simp))
  · simp only [cellsK_tID]
    exact keyLits_int Try.underlying27 (h _ (by simp))
  · simp only [cellsK_tID]
    exact keyLits_int Try.underlying27 (h _ (by simp))
  · simp only [cellsK_tID]
    exact keyLits_int Try.underlying27 (h _ (by simp))
  · simp only [cellsK_tID]
    exact keyLits_int Try.underlying27 (h _ (by simp))
set_option maxHeartbeats 1000000 in
set_option maxRecDepth 100000 in
theorem keyLits_mark (n : Nat) (m : MarkV) (h : ∀ u ∈ m.row, CellOk u) : ∃ ls, Try.prog.keyLits (n + 4) 63 m.row = some ls := by
  have hd : ∀ u ∈ m.dn.row, CellOk u := fun u hu => h u (by unfold MarkV.row; simp [hu])
  refine keyLits_struct Try.underlying63 (by rw [cellsK_tMark]; rfl) (by kernel_rfl) (fun f hf => ?_)
  unfold MarkV.row at h ⊢
  simp only [List.mem_cons, List.not_mem_nil, or_false] at hf
  rcases hf with rfl | rfl | rfl | rfl | rfl | rfl | rfl
  · simp only [cellsK_tInt]
    exact keyLits_int Try.underlying3 (h _ (by simp))
  · simp only [cellsK_tInt]
    exact keyLits_int Try.underlying3 (h _ (by simp))
  · simp only [cellsK_tStr]
    exact keyLits_str Try.underlying9 (h _ (by simp))
  · simp only [cellsK_tStr]
    exact keyLits_str Try.underlying9 (h _ (by simp))
  · simp only [cellsK_tStr]
    exact keyLits_str Try.underlying9 (h _ (by simp))
  · simp only [cellsK_tID]
    exact keyLits_int Try.underlying27 (h _ (by simp))
  · simp only [cellsK_tDone]
    exact keyLits_done n m.dn hd
theorem laidOut32 : laidOutB Try.prog = true := by kernel_rfl
theorem rowMark : (63 : TypeId) < Try.prog.types.size := of_decide_eq_true (by kernel_rfl)
theorem deepMark : Try.prog.keyTypeAt 4 63 = true := by kernel_rfl
theorem lawMark : Keyed Try.prog 63 := Keyed.of_law (deep_law_laid laidOut32 (m := 4) (by omega) rowMark deepMark (by rw [Try.underlying63]))
theorem keyTypeMark : Try.prog.keyType 63 = true := by kernel_rfl
theorem fuelMark : ∃ n, Try.prog.types.size = n + 3 := ⟨Try.prog.types.size - 3, by have : 3 ≤ Try.prog.types.size := of_decide_eq_true (by kernel_rfl); omega⟩
theorem keyOf_mark (m : MarkV) (h : ∀ u ∈ m.row, CellOk u) : ∃ l, keyOf Try.prog 63 (.agg m.row.toArray) = some l := by
  obtain ⟨n, hn⟩ := fuelMark
  obtain ⟨ls, hls⟩ := keyLits_mark n m h
  have hf : (Value.agg m.row.toArray).formed Try.prog 63 = true := by
    simp only [Value.formed, Try.underlying63, cellsK_tMark]
    rfl
  unfold keyOf
  rw [Try.underlying63]
  simp only [keyTypeMark, hf, Bool.and_self, if_true, hn]
  exact ⟨_, by rw [show (Value.agg m.row.toArray).cells.toList = m.row by simp [Value.cells], hls]; rfl⟩
end Go.Proofs.Ytpkkeeblgbdfdaa
