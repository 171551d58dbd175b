/- Layer 15, plain: the methods' names, the lists' words; the two tables in memory. -/
import Derived.Test.YtihkhcocfhbekaaDoorPf0
namespace Go.Proofs.YtihkhcocfhbekaaDoor
open Go.RowKit

def meCurve : List UInt8 := [99, 117, 114, 118, 101, 50, 53, 53, 49, 57, 45, 115, 104, 97, 50, 53, 54]
def meEcdh : List UInt8 := [101, 99, 100, 104, 45, 115, 104, 97, 50, 45, 110, 105, 115, 116, 112, 50, 53, 54]
def meGex : List UInt8 := [100, 105, 102, 102, 105, 101, 45, 104, 101, 108, 108, 109, 97, 110, 45, 103, 114, 111, 117, 112, 45, 101, 120, 99, 104, 97, 110, 103, 101, 45, 115, 104, 97, 50, 53, 54]
def methodP (x : List UInt8) : Int := if x = meCurve then 1 else if x = meEcdh then 2 else if x = meGex then 3 else 0
def pfWords : List (List UInt8) := [[107, 101, 120], [104, 111, 115, 116], [101, 110, 99, 45, 99], [101, 110, 99, 45, 115], [109, 97, 99, 45, 99], [109, 97, 99, 45, 115], [99, 111, 109, 112, 45, 99], [99, 111, 109, 112, 45, 115]]
def wordZ (i : Int) : List UInt8 := if 0 ≤ i ∧ i < 8 then pfWords.getD i.toNat [] else []
def methodZ (i : Int) : List UInt8 := if i = 1 then meCurve else if i = 2 then meEcdh else if i = 3 then meGex else []
/-- The two tables in memory. -/
def Tab15 (w : World) : Prop :=
  (∃ tt fr, w.heap[2]? = some (.cells #[.string ⟨#[]⟩, .string (bs meCurve), .string (bs meEcdh), .string (bs meGex)] tt fr)) ∧
  ∃ tt fr, w.heap[1]? = some (.cells (pfWords.map fun x => Value.string (bs x)).toArray tt fr)
theorem Tab15.lt {w : World} (h : Tab15 w) : 2 < w.heap.size ∧ 1 < w.heap.size := by
  obtain ⟨⟨_, _, h⟩, _, _, h'⟩ := h
  exact ⟨(Array.getElem?_eq_some_iff.1 h).1, (Array.getElem?_eq_some_iff.1 h').1⟩
theorem Tab15.below {w w' : World} (h : Tab15 w) (hb : Below w.heap.size w w') : Tab15 w' := by
  have hl := h.lt
  obtain ⟨⟨t1, f1, h1⟩, t2, f2, h2⟩ := h
  exact ⟨⟨t1, f1, (hb.block _ hl.1).trans h1⟩, t2, f2, (hb.block _ hl.2).trans h2⟩
end Go.Proofs.YtihkhcocfhbekaaDoor
