/- Events in memory: their cells; a struct's load out of a slice's row. -/
import Derived.Test.YtjphlhehhigpjaaMem
import Derived.Laws.Cells
namespace Go.Proofs.Ytjphlhehhigpjaa
open Go.RowKit

/-- What an exchange came to. -/
structure DoV where
  vc : ByteArray
  vs : ByteArray
  ic : ByteArray
  iz : ByteArray
  h0 : ByteArray
  h1 : ByteArray
  h2 : ByteArray
  h3 : ByteArray
  h4 : ByteArray
  h5 : ByteArray
  h6 : ByteArray
  h7 : ByteArray
  me : Int
  w0 : Nat
  w1 : Nat
  w2 : Nat
  gp : ByteArray
  gg : ByteArray
  ky : Int
  ke : Int
  kf : Int
  kk : Int
  kh : Int
  ks : Int
  ku : Int
  kd : Int
deriving DecidableEq
/-- An event. -/
structure EvV where
  ki : Int
  se : Int
  nu : Int
  wh : Int
  us : ByteArray
  sv : ByteArray
  al : ByteArray
  sid : Int
  dn : DoV
def DoV.row (d : DoV) : List Value := [.string d.vc, .string d.vs, .string d.ic, .string d.iz, .string d.h0, .string d.h1, .string d.h2, .string d.h3, .string d.h4, .string d.h5, .string d.h6, .string d.h7, .int .i64 d.me, .int .u32 (d.w0 : Int), .int .u32 (d.w1 : Int), .int .u32 (d.w2 : Int), .string d.gp, .string d.gg, .int .i64 d.ky, .int .i64 d.ke, .int .i64 d.kf, .int .i64 d.kk, .int .i64 d.kh, .int .i64 d.ks, .int .i64 d.ku, .int .i64 d.kd]
def EvV.row (x : EvV) : Array Value := (.int .i64 x.ki :: .int .i64 x.se :: .int .i64 x.nu :: .int .i64 x.wh :: .string x.us :: .string x.sv :: .string x.al :: .int .i64 x.sid :: .string x.dn.vc :: .string x.dn.vs :: .string x.dn.ic :: .string x.dn.iz :: .string x.dn.h0 :: .string x.dn.h1 :: .string x.dn.h2 :: .string x.dn.h3 :: .string x.dn.h4 :: .string x.dn.h5 :: .string x.dn.h6 :: .string x.dn.h7 :: .int .i64 x.dn.me :: .int .u32 (x.dn.w0 : Int) :: .int .u32 (x.dn.w1 : Int) :: .int .u32 (x.dn.w2 : Int) :: .string x.dn.gp :: .string x.dn.gg :: .int .i64 x.dn.ky :: .int .i64 x.dn.ke :: .int .i64 x.dn.kf :: .int .i64 x.dn.kk :: .int .i64 x.dn.kh :: .int .i64 x.dn.ks :: .int .i64 x.dn.ku :: .int .i64 x.dn.kd :: []).toArray
theorem EvV.row_size (x : EvV) : x.row.size = 34 := rfl
theorem EvV.row_one (x : EvV) : x.row.all (·.oneCell') = true := by simp [EvV.row, Value.oneCell']
theorem EvV.row_ki (x : EvV) : x.row[0]? = some (.int .i64 x.ki) := rfl
theorem EvV.row_se (x : EvV) : x.row[1]? = some (.int .i64 x.se) := rfl
theorem EvV.row_nu (x : EvV) : x.row[2]? = some (.int .i64 x.nu) := rfl
theorem EvV.row_wh (x : EvV) : x.row[3]? = some (.int .i64 x.wh) := rfl
theorem DoV.row_size (d : DoV) : d.row.length = 26 := rfl
/-- A cell as a variable of its type can hold it. -/
def CellOk : Value → Prop
  | .int k n => (Lit.int k n).wf = true
  | .string s => s.size ≤ maxLen
  | _ => True
/-- A slice value that reads as these events. -/
def EventsAt (w : World) (v : Value) (l : List EvV) : Prop :=
  ∃ ao cap, v = .slice ao l.length cap ∧ (l ≠ [] → ∃ b off, ao = some ⟨b, off, none⟩ ∧ b < w.heap.size ∧ ∀ k x, l[k]? = some x → ∀ j u, x.row[j]? = some u → w.cell? ⟨b, off + k * 34 + j, none⟩ = some u)
theorem EventsAt.nil (w : World) : EventsAt w (.slice none 0 0) [] := ⟨none, 0, rfl, fun h => absurd rfl h⟩
theorem EventsAt.below {w w' : World} {v : Value} {l : List EvV} (h : EventsAt w v l) (hb : Below w.heap.size w w') : EventsAt w' v l := by
  obtain ⟨ao, cap, rfl, h⟩ := h
  refine ⟨ao, cap, rfl, fun hne => ?_⟩
  obtain ⟨b, off, rfl, hlt, hk⟩ := h hne
  exact ⟨b, off, rfl, Nat.lt_of_lt_of_le hlt hb.size, fun k x hx j u hj => (hb.cell (p := ⟨b, off + k * 34 + j, none⟩) hlt).trans (hk k x hx j u hj)⟩
set_option maxRecDepth 100000 in
theorem sizeEvent : (Try.prog.info? 46).map (·.size) = some 34 := by kernel_rfl

section
variable {P : Program}
theorem run_loadVar_cells (w : World) (a : Addr) (ty : TypeId) (cs : Array Value) (d : TypeDesc) (h : ∀ j v, cs[j]? = some v → w.cell? (a.add j) = some v)
    (hu : P.underlying ty = some d) (hd : (match d with | .struct _ | .array _ _ => true | _ => false) = true) (hi : (P.info? ty).map (·.size) = some cs.size) :
    (loadVar ty a).run P w = .ok (.agg cs) w := by
  have hl : (loadCells a cs.toList.length).run P w = .ok cs.toList.toArray w :=
    run_loadCells_list (P := P) w a cs.toList (fun j v hv => h j v (by simpa using hv))
  cases hq : P.info? ty with
  | none => simp [hq] at hi
  | some i =>
    have hs : i.size = cs.size := by simpa [hq] using hi
    have hagg : (isAgg ty).run P w = .ok true w := by
      unfold isAgg
      rw [Sem.run_bind, run_underlying hu w]
      cases d <;> simp_all
    simp only [Array.length_toList, Array.toArray_toList] at hl
    simp [loadVar, Sem.run_bind, hagg, sizeOf, typeInfo, hq, hs, hl]
theorem wp_load_cells {o : Oper} {a : Act} {w : World} {K : Act → World → Prop} {Q : Exit → Act → World → Prop} (ty : TypeId) (x : Operand) (ho : o.op = .load ty x)
    (p : Addr) (hx : a.eval x = .pointer (some p)) (cs : Array Value) (d : TypeDesc) (hg : ∀ j v, cs[j]? = some v → w.cell? (p.add j) = some v)
    (hu : P.underlying ty = some d) (hd : (match d with | .struct _ | .array _ _ => true | _ => false) = true) (hi : (P.info? ty).map (·.size) = some cs.size)
    (h : K (a.put o.dst (.agg cs)) w) : o.wp P a w K Q := by
  unfold Oper.wp execOp
  simp only [ho, hx, Instr.loadAt, Instr.sureAddr, Sem.run_bind, Sem.run_pure, Result.andThen_ok, run_loadVar_cells w p ty cs d hg hu hd hi]
  exact h
theorem wpList_load_cells {ops : Array Oper} {rest : List Oper} {o : Oper} {a : Act} {w : World} {Q : Exit → Act → World → Prop} (hgd : o.guard = none) (ty : TypeId) (x : Operand) (ho : o.op = .load ty x)
    (p : Addr) (hx : a.eval x = .pointer (some p)) (cs : Array Value) (d : TypeDesc) (hg : ∀ j v, cs[j]? = some v → w.cell? (p.add j) = some v)
    (hu : P.underlying ty = some d) (hd : (match d with | .struct _ | .array _ _ => true | _ => false) = true) (hi : (P.info? ty).map (·.size) = some cs.size)
    (h : wpList P ops Q rest (a.put o.dst (.agg cs)) w) : wpList P ops Q (o :: rest) a w :=
  wpList_plain hgd fun _ hK => wp_load_cells ty x ho p hx cs d hg hu hd hi (hK _ _ h)
theorem wpList_load_cells_on {ops : Array Oper} {rest : List Oper} {o : Oper} {a : Act} {w : World} {Q : Exit → Act → World → Prop} (hw : Region.wanted o (yielded ops a.tmps) = true) (ty : TypeId) (x : Operand) (ho : o.op = .load ty x)
    (p : Addr) (hx : a.eval x = .pointer (some p)) (cs : Array Value) (d : TypeDesc) (hg : ∀ j v, cs[j]? = some v → w.cell? (p.add j) = some v)
    (hu : P.underlying ty = some d) (hd : (match d with | .struct _ | .array _ _ => true | _ => false) = true) (hi : (P.info? ty).map (·.size) = some cs.size)
    (h : wpList P ops Q rest (a.put o.dst (.agg cs)) w) : wpList P ops Q (o :: rest) a w := by
  simp only [wpList, hw]
  exact Or.inl (wp_load_cells ty x ho p hx cs d hg hu hd hi h)
end
/-- Where a list first has what is asked for; -1: nowhere. -/
def idxP {α : Type} (p : α → Bool) (l : List α) : Int := match l.findIdx? p with | some i => (i : Int) | none => -1
theorem idxP_hit {α : Type} {p : α → Bool} {l : List α} {k : Nat} (hk : k < l.length) (h1 : p l[k] = true) (h0 : ∀ x ∈ l.take k, p x = false) : idxP p l = k := by
  have : l.findIdx? p = some k := by
    rw [List.findIdx?_eq_some_iff_getElem]
    refine ⟨hk, h1, fun j hj => ?_⟩
    have := h0 l[j] (List.mem_take_iff_getElem.2 ⟨j, by omega, rfl⟩)
    simpa using this
  unfold idxP
  rw [this]
theorem idxP_miss {α : Type} {p : α → Bool} {l : List α} (h0 : ∀ x ∈ l, p x = false) : idxP p l = -1 := by
  have : l.findIdx? p = none := List.findIdx?_eq_none_iff.2 h0
  unfold idxP
  rw [this]
theorem idxP_cases {α : Type} (p : α → Bool) (l : List α) : (idxP p l = -1 ∧ ∀ x ∈ l, p x = false) ∨ ∃ k, ∃ hk : k < l.length, idxP p l = (k : Int) ∧ p l[k] = true ∧ ∀ x ∈ l.take k, p x = false := by
  cases h : l.findIdx? p with
  | none => exact .inl ⟨by unfold idxP; rw [h], List.findIdx?_eq_none_iff.1 h⟩
  | some k =>
    obtain ⟨hk, h1, h2⟩ := List.findIdx?_eq_some_iff_getElem.1 h
    refine .inr ⟨k, hk, by unfold idxP; rw [h], h1, fun x hx => ?_⟩
    obtain ⟨j, hj, rfl⟩ := List.mem_take_iff_getElem.1 hx
    simpa using h2 j (by omega)
theorem evTake {α : Type} {p : α → Prop} {l : List α} {k : Nat} (hk : k < l.length) (h : ∀ x ∈ l.take k, p x) (h1 : p l[k]) : ∀ x ∈ l.take (k + 1), p x := fun x hx => by
  rw [List.take_succ_eq_append_getElem hk, List.mem_append] at hx
  rcases hx with hx | hx
  · exact h x hx
  · simp at hx
    rw [hx]; exact h1
end Go.Proofs.Ytjphlhehhigpjaa
