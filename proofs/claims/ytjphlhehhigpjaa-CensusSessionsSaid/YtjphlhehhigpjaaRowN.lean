/- Off Cf7. -/
import Derived.Test.YtjphlhehhigpjaaMem
import Derived.Laws.Tables
import Derived.Laws.CopyOwn
namespace Go.Proofs.Ytjphlhehhigpjaa
open Go.RowKit

/-- A whole store into a block that is new. -/
theorem alloc_setRow (w : World) (Z R : Array Value) (t : TypeId) {N : Nat} (hN : N = w.heap.size) : (w.alloc (.cells Z t)).setRow N R = w.alloc (.cells R t) := by
  subst hN
  have e : ((w.heap.push (.cells Z t)).modify w.heap.size fun
      | .cells _ elem frozen => .cells R elem frozen
      | o => o) = w.heap.push (.cells R t) := by
    apply Array.ext_getElem?
    intro i
    rw [Array.getElem?_modify]
    by_cases h : w.heap.size = i
    · subst h
      simp
    · rw [if_neg h, Array.getElem?_push, Array.getElem?_push, if_neg (fun e => h e.symm), if_neg (fun e => h e.symm)]
  exact congrArg (fun h => ({ w with heap := h } : World)) e
theorem new_row (w : World) (Z : Array Value) (t : TypeId) {N : Nat} (hN : N = w.heap.size) : (w.alloc (.cells Z t)).heap[N]? = some (.cells Z t (0, 0)) := by
  subst hN
  exact heap_alloc_new w _
theorem wpList_store_new {P : Program} {ops : Array Oper} {rest : List Oper} {o : Oper} {a : Act} {w : World} {Q : Exit → Act → World → Prop} (hgd : o.guard = none) (ty : TypeId) (x y : Operand) (ho : o.op = .store ty x y)
    (N : Nat) (Z R : Array Value) (t : TypeId) (hx : a.eval x = .pointer (some ⟨N, 0, none⟩)) (hy : a.eval y = .agg R) (hN : N = w.heap.size) (hi : (P.info? ty).map (·.size) = some R.size)
    (hold : Z.size = R.size) (h1 : R.all (·.oneCell') = true) (h : wpList P ops Q rest (a.put o.dst undef) (w.alloc (.cells R t))) : wpList P ops Q (o :: rest) a (w.alloc (.cells Z t)) :=
  wpList_store_row hgd ty x y ho N R hx hy t Z (new_row w Z t hN) hi hold h1 (by rw [alloc_setRow w Z R t hN]; exact h)
theorem wpList_build_as {P : Program} {ops : Array Oper} {rest : List Oper} {o : Oper} {a : Act} {w : World} {Q : Exit → Act → World → Prop} (hg : o.guard = none) (t : TypeId) (parts : Array (Nat × Operand)) (ho : o.op = .build t parts) (row : Array Value)
    (hf : P.built t (parts.map fun (i, x) => (i, a.eval x)).toList = some row)
    (h : wpList P ops Q rest (a.put o.dst (.agg row)) w) : wpList P ops Q (o :: rest) a w :=
  wpList_build hg t parts ho (by rw [hf]; rfl) (by rw [hf]; exact h)
end Go.Proofs.Ytjphlhehhigpjaa
