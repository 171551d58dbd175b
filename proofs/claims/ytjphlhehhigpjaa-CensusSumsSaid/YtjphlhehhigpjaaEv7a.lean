/- Layer 31: rows of events of the call's own. -/
import Derived.Test.YtjphlhehhigpjaaEvAw
import Derived.Laws.AppendOwn
import Derived.Laws.OwnMore
namespace Go.Proofs.Ytjphlhehhigpjaa
open Go.RowKit

theorem fill_one31 (R : Array Value) (hR : R.size = 34) (Z : Array Value) : Instr.fill (fun i => some (i * 34, 34)) ((Array.range (1 * 34)).map ((Value.agg Z).cells[· % (Value.agg Z).cells.size]!)) [(0, .agg R)] = some R := by
  have h := Great.fill_whole (s := 34) (by decide) [Value.agg R] ((Array.range (1 * 34)).map ((Value.agg Z).cells[· % (Value.agg Z).cells.size]!)) (fun v hv => by simp at hv; subst hv; exact hR) (by simp)
  have h2 : (([Value.agg R] : List Value).flatMap fun v => v.cells.toList).toArray = R := by simp [Value.cells]
  rw [h2] at h
  exact h
/-- The cells of events, one behind the other. -/
def evCells : List EvV → List Value
  | [] => []
  | x :: r => x.row.toList ++ evCells r
theorem evCells_len : ∀ l : List EvV, (evCells l).length = l.length * 34
  | [] => rfl
  | x :: r => by
    have : x.row.toList.length = 34 := rfl
    rw [evCells, List.length_append, evCells_len r, this, List.length_cons]
    omega
theorem evCells_app : ∀ a b : List EvV, evCells (a ++ b) = evCells a ++ evCells b
  | [], b => rfl
  | x :: r, b => by rw [List.cons_append, evCells, evCells, evCells_app r b, List.append_assoc]
theorem evCells_snoc (l : List EvV) (x : EvV) : evCells (l ++ [x]) = evCells l ++ x.row.toList := by
  rw [evCells_app, evCells, evCells, List.append_nil]
theorem evCells_get : ∀ (l : List EvV) (k : Nat) (x : EvV) (j : Nat), l[k]? = some x → j < 34 → (evCells l)[k * 34 + j]? = x.row[j]?
  | [], k, x, j, h, _ => by simp at h
  | y :: r, 0, x, j, h, hj => by
    simp at h
    subst h
    have : y.row.toList.length = 34 := rfl
    rw [evCells, List.getElem?_append_left (by omega)]
    simp
  | y :: r, k + 1, x, j, h, hj => by
    have : y.row.toList.length = 34 := rfl
    rw [evCells, List.getElem?_append_right (by omega), this, show (k + 1) * 34 + j - 34 = k * 34 + j by omega]
    exact evCells_get r k x j (by simpa using h) hj
theorem EventsAt.ofRow {w : World} {base : Nat} {v : Value} {l : List EvV} (h : w.ownsRow base 46 34 v l.length (evCells l)) (hn : l = [] → v = .slice none 0 0) : EventsAt w v l := by
  by_cases hl : l = []
  · subst hl
    rw [hn rfl]
    exact EventsAt.nil w
  · have hown := h
    obtain ⟨_, hcase⟩ := h
    rcases hcase with ⟨_, h0⟩ | ⟨g, cap', cur, rfl, hg, hh, hn, hcap, hsz, htake⟩
    · exact absurd (List.length_eq_zero_iff.1 h0) hl
    · refine ⟨some ⟨g, 0, none⟩, cap', rfl, fun _ => ⟨g, 0, rfl, (Array.getElem?_eq_some_iff.1 hh).1, fun k x hk j u hj => ?_⟩⟩
      have hj34 : j < 34 := by
        have := (Array.getElem?_eq_some_iff.1 hj).1
        rwa [x.row_size] at this
      have hk' := (List.getElem?_eq_some_iff.1 hk).1
      rw [Nat.zero_add, hown.cellAt (k * 34 + j) (by omega), evCells_get l k x j hk hj34, hj]
set_option maxRecDepth 100000 in
theorem infoEv31 : (Try.prog.info? 46).map (fun i => (i.zero, i.size, i.bytes)) = some (some (.agg (zeroE 0 0).row), 34, 400) := by kernel_rfl
theorem row_news31 {W : World} {g : Nat} {t : TypeId} {R : Array Value} (h : Holds W g t R) : ∀ (j : Nat) (u : Value), R.toList[j]? = some u → W.cell? ((⟨g, 0, none⟩ : Addr).add j) = some u := fun j u hj => by
  rw [Addr.add_lit, Nat.zero_add]
  exact (h.cell j).trans (by simpa using hj)
theorem row_one31 {R : Array Value} (h : R.all (·.oneCell') = true) : ∀ u ∈ R.toList, u.oneCell' = true := fun u hu => by
  have := Array.all_eq_true'.1 h u (by simpa using hu)
  exact this
theorem parts_one (a : Act) (x : Operand) (u : Value) (hx : a.eval x = u) : ((#[(0, x)] : Array (Nat × Operand)).map fun (i, x) => (i, a.eval x)).toList = [(0, u)] := by simp [hx]
end Go.Proofs.Ytjphlhehhigpjaa
