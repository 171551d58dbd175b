/- Off Ev3. -/
import Derived.Test.YtjphlhehhigpjaaEv2p
import Derived.Test.YtjphlhehhigpjaaRowN2
import Derived.Great.BuildSlice
import Derived.Deep.Cut
namespace Go.Proofs.Ytjphlhehhigpjaa
open Go.RowKit


theorem wpList_buildSlice_on {P : Program} {ops : Array Oper} {rest : List Oper} {o : Oper} {a : Act} {w : World} {Q : Exit → Act → World → Prop} (hw : Region.wanted o (yielded ops a.tmps) = true) (t e : TypeId) (len : Nat) (parts : Array (Nat × Operand)) (ho : o.op = .buildSlice t len parts)
    (cells : Array Value) (ie : TypeInfo) (z : Value)
    (hu : P.underlying t = some (.slice e)) (hie : P.info? e = some ie) (hz : ie.zero = some z) (hsmall : ¬ len * ie.size > 2 ^ 24) (hpos : ¬ len * ie.size = 0)
    (hf : Instr.fill (fun i => some (i * ie.size, ie.size)) ((Array.range (len * ie.size)).map (z.cells[· % z.cells.size]!)) (parts.map fun (i, x) => (i, a.eval x)).toList = some cells)
    (h : wpList P ops Q rest (a.put o.dst (.slice (some ⟨w.heap.size, 0, none⟩) len len)) (w.alloc (.cells cells e))) : wpList P ops Q (o :: rest) a w := by
  simp only [wpList, hw]
  exact Or.inl (wp_buildSlice t e len parts ho cells ie z hu hie hz hsmall hpos hf h)
def zeroE (ki wh : Int) : EvV := ⟨ki, 0, 0, wh, ⟨#[]⟩, ⟨#[]⟩, ⟨#[]⟩, 0, ⟨⟨#[]⟩, ⟨#[]⟩, ⟨#[]⟩, ⟨#[]⟩, ⟨#[]⟩, ⟨#[]⟩, ⟨#[]⟩, ⟨#[]⟩, ⟨#[]⟩, ⟨#[]⟩, ⟨#[]⟩, ⟨#[]⟩, 0, 0, 0, 0, ⟨#[]⟩, ⟨#[]⟩, 0, 0, 0, 0, 0, 0, 0, 0⟩⟩
theorem events_two {w : World} {b : Nat} {t : TypeId} {x y : EvV} (h : Holds w b t (x.row ++ y.row)) : EventsAt w (.slice (some ⟨b, 0, none⟩) 2 2) [x, y] := ⟨_, _, rfl, fun _ => ⟨_, 0, rfl, h.lt, fun k z hk j u hj => by
  rw [h.cell, Array.getElem?_append]
  have hj34 : j < 34 := by
    have := (Array.getElem?_eq_some_iff.1 hj).1
    rwa [z.row_size] at this
  match k, hk with
  | 0, hk =>
    simp at hk; subst hk
    rw [if_pos (by rw [x.row_size]; omega)]
    simpa using hj
  | 1, hk =>
    simp at hk; subst hk
    rw [if_neg (by rw [x.row_size]; omega), x.row_size]
    rw [← hj]; congr 1; omega
  | k + 2, hk => simp at hk⟩⟩
set_option maxRecDepth 100000 in
theorem infoEvent : (Try.prog.info? 46).map (fun i => (i.size, i.zero)) = some (34, some (.agg (zeroE 0 0).row)) := by kernel_rfl
theorem infoEvent' : ∃ ie, Try.prog.info? 46 = some ie ∧ ie.size = 34 ∧ ie.zero = some (.agg (zeroE 0 0).row) := by
  have h := infoEvent
  cases hq : Try.prog.info? 46 with
  | none => rw [hq] at h; simp at h
  | some ie =>
    rw [hq] at h
    simp only [Option.map_some, Option.some.injEq, Prod.mk.injEq] at h
    exact ⟨ie, rfl, h.1, h.2⟩
/-- A slice of two events, filled. -/
def Fills (x y : EvV) : Prop := Instr.fill (fun i => some (i * 34, 34)) ((Array.range (2 * 34)).map ((Value.agg (zeroE 0 0).row).cells[· % (Value.agg (zeroE 0 0).row).cells.size]!)) [(0, .agg x.row), (1, .agg y.row)] = some (x.row ++ y.row)
theorem parts_two (a : Act) (x y : Operand) (u v : Value) (hx : a.eval x = u) (hy : a.eval y = v) : ((#[(0, x), (1, y)] : Array (Nat × Operand)).map fun (i, x) => (i, a.eval x)).toList = [(0, u), (1, v)] := by simp [hx, hy]
theorem store2_below {w : World} (C T : Array Value) (t : TypeId) : Below w.heap.size w ((w.alloc (.cells C t)).alloc (.cells T t)) := ((Below.refl _ w).alloc (Nat.le_refl _) _).alloc (by simp only [World.size_alloc]; omega) _
end Go.Proofs.Ytjphlhehhigpjaa
