/- Off CfA. -/
import Derived.Test.YtjphlhehhigpjaaRowN
import Derived.Deep.RegionHeld3
namespace Go.Proofs.Ytjphlhehhigpjaa
open Go.RowKit


/-- A whole store into the last block but one. -/
theorem alloc2_setRow (w : World) (Z R : Array Value) (t : TypeId) (o : Obj) {N : Nat} (hN : N = w.heap.size) : ((w.alloc (.cells Z t)).alloc o).setRow N R = (w.alloc (.cells R t)).alloc o := by
  subst hN
  have e : (((w.heap.push (.cells Z t)).push o).modify w.heap.size fun
      | .cells _ elem frozen => .cells R elem frozen
      | o => o) = (w.heap.push (.cells R t)).push o := by
    apply Array.ext_getElem?
    intro i
    rw [Array.getElem?_modify]
    by_cases h : w.heap.size = i
    · subst h
      have e1 : ∀ C : Array Value, ((w.heap.push (.cells C t)).push o)[w.heap.size]? = some (.cells C t) := fun C => by
        rw [Array.getElem?_push, Array.size_push, if_neg (by omega), Array.getElem?_push, if_pos rfl]
      rw [if_pos rfl, e1, e1]
      rfl
    · simp only [Array.getElem?_push, Array.size_push]
      rw [if_neg h, if_neg (fun e : i = w.heap.size => h e.symm), if_neg (fun e : i = w.heap.size => h e.symm)]
  exact congrArg (fun h => ({ w with heap := h } : World)) e
theorem first2_row (w : World) (Z : Array Value) (t : TypeId) (o : Obj) {N : Nat} (hN : N = w.heap.size) : ((w.alloc (.cells Z t)).alloc o).heap[N]? = some (.cells Z t (0, 0)) := by
  subst hN
  exact (((Below.refl _ (w.alloc (.cells Z t))).alloc (Nat.le_refl _) o).block w.heap.size (by simp only [World.size_alloc]; omega)).trans (heap_alloc_new w _)
theorem last2_row (w : World) (Z : Array Value) (t : TypeId) (o : Obj) {N : Nat} (hN : N = w.heap.size + 1) : ((w.alloc o).alloc (.cells Z t)).heap[N]? = some (.cells Z t (0, 0)) := new_row _ Z t (by rw [World.size_alloc]; exact hN)
theorem wpList_store_new2 {P : Program} {ops : Array Oper} {rest : List Oper} {o : Oper} {a : Act} {w : World} {Q : Exit → Act → World → Prop} (hgd : o.guard = none) (ty : TypeId) (x y : Operand) (ho : o.op = .store ty x y)
    (N : Nat) (Z R : Array Value) (t : TypeId) (o2 : Obj) (hx : a.eval x = .pointer (some ⟨N, 0, none⟩)) (hy : a.eval y = .agg R) (hN : N = w.heap.size) (hi : (P.info? ty).map (·.size) = some R.size)
    (hold : Z.size = R.size) (h1 : R.all (·.oneCell') = true) (h : wpList P ops Q rest (a.put o.dst undef) ((w.alloc (.cells R t)).alloc o2)) : wpList P ops Q (o :: rest) a ((w.alloc (.cells Z t)).alloc o2) :=
  wpList_store_row hgd ty x y ho N R hx hy t Z (first2_row w Z t o2 hN) hi hold h1 (by rw [alloc2_setRow w Z R t o2 hN]; exact h)
theorem cell_heap {w : World} {b : Nat} {C : Array Value} {t : TypeId} (h : w.heap[b]? = some (.cells C t (0, 0))) (j : Nat) : w.cell? ⟨b, j, none⟩ = C[j]? := by
  have H : Holds w b t C := h
  exact H.cell j
/-- A guarded load of a whole row, where it is wanted. -/
theorem wpList_load_row_on {P : Program} {ops : Array Oper} {rest : List Oper} {o : Oper} {a : Act} {w : World} {Q : Exit → Act → World → Prop} (hw : Region.wanted o (yielded ops a.tmps) = true) (ty : TypeId) (x : Operand) (ho : o.op = .load ty x)
    (g : Nat) (hx : a.eval x = .pointer (some ⟨g, 0, none⟩)) (t : TypeId) (cs : Array Value) (fr : Nat × Nat) (d : TypeDesc) (hg : w.heap[g]? = some (.cells cs t fr))
    (hu : P.underlying ty = some d) (hd : (match d with | .struct _ | .array _ _ => true | _ => false) = true) (hi : (P.info? ty).map (·.size) = some cs.size)
    (h : wpList P ops Q rest (a.put o.dst (.agg cs)) w) : wpList P ops Q (o :: rest) a w := by
  simp only [wpList, hw]
  exact Or.inl (wp_load_row ty x ho g hx t cs fr d hg hu hd hi h)
end Go.Proofs.Ytjphlhehhigpjaa
