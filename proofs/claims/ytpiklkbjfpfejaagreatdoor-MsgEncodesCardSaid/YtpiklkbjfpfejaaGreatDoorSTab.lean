/- The table of words in memory. -/
import Derived.Test.YtpiklkbjfpfejaaGreatDoorForms
import Derived.Test.YtpiklkbjfpfejaaGreatDoorRows
import Derived.LaidLaws
import Derived.LaidMore
import Derived.ChangeSame
import Derived.OpenShut
namespace Go.Proofs.YtpiklkbjfpfejaaGreatDoor
open Go.RowKit Go.WideShapes Go.ChangeShapes

/-- The numbers and words of the table, as they lie in memory. -/
def wordCells (l : List (Int × ByteArray × List ByteArray)) : List Value := l.flatMap fun r => [.int .i64 r.1, .string r.2.1]
theorem wordCells_at : ∀ (l : List (Int × ByteArray × List ByteArray)) (i : Nat) (r : Int × ByteArray × List ByteArray), l[i]? = some r → (wordCells l)[2 * i]? = some (.int .i64 r.1) ∧ (wordCells l)[2 * i + 1]? = some (.string r.2.1)
  | [], i, r, h => by simp at h
  | x :: l, 0, r, h => by
    simp at h
    subst h
    exact ⟨rfl, rfl⟩
  | x :: l, i + 1, r, h => by
    have ih := wordCells_at l i r (by simpa using h)
    have e : wordCells (x :: l) = .int .i64 x.1 :: .string x.2.1 :: wordCells l := rfl
    rw [e, show 2 * (i + 1) = 2 * i + 1 + 1 by omega]
    simpa using ih
theorem wordCells_len (l : List (Int × ByteArray × List ByteArray)) : (wordCells l).length = 2 * l.length := by
  induction l with
  | nil => rfl
  | cons x l ih =>
    have e : wordCells (x :: l) = .int .i64 x.1 :: .string x.2.1 :: wordCells l := rfl
    rw [e]; simp [ih]; omega
/-- The first variable holds the table. -/
def TabAt (w : World) : Prop := ∃ tt fr, w.heap[0]? = some (.cells (wordCells tableP).toArray tt fr)
theorem TabAt.lt {w : World} (h : TabAt w) : 0 < w.heap.size := by
  obtain ⟨_, _, h⟩ := h
  exact (Array.getElem?_eq_some_iff.1 h).1
theorem TabAt.below {w w' : World} (h : TabAt w) (hb : Below w.heap.size w w') : TabAt w' := by
  have hl := h.lt
  obtain ⟨tt, fr, h⟩ := h
  exact ⟨tt, fr, (hb.block 0 hl).trans h⟩
def wordsData {H : Type} (l : List (Int × ByteArray × List ByteArray)) : DataW H := .agg (l.map fun r => .agg [.lit (.int .i64 r.1), .lit (.string r.2.1.data.toList)])
theorem wordsData_is : (Rows.laid_shibboleth_schema_words : DataW Unit) = wordsData tableP := by kernel_rfl
set_option maxRecDepth 100000 in
theorem cellsRow : Tryz.prog.cellsOf 70 = 2 := by kernel_rfl
set_option maxRecDepth 100000 in
theorem cellsTab : Tryz.prog.cellsOf 71 = 38 := by kernel_rfl
set_option maxRecDepth 100000 in
theorem cellsI : Tryz.prog.cellsOf 3 = 1 := by kernel_rfl
set_option maxRecDepth 100000 in
theorem cellsS : Tryz.prog.cellsOf 9 = 1 := by kernel_rfl

theorem cells_of_words {enc : TypeId × Value → Unit} {W : World} {base : Nat} {sp : Nat → Bool} {held : Bool} {fuel : Nat} {cs : List Value} {l : List (Int × ByteArray × List ByteArray)} {p : List MemPlace}
    (h : DataW.trod enc Tryz.prog W base sp held fuel 71 cs = some (wordsData l, p)) : cs = wordCells l := by
  obtain ⟨xs, m, _, hx, hlen, hxl, hxs⟩ := DataW.trod_array Tryz.underlying71 h
  rw [cellsTab] at hlen
  rw [cellsRow] at hxs
  have hd : (xs.map (·.1)) = l.map fun r => (.agg [.lit (.int .i64 r.1), .lit (.string r.2.1.data.toList)] : DataW Unit) := by
    have := congrArg Prod.fst hx
    simpa [wordsData] using this.symm
  have hll : l.length = 19 := by
    have := congrArg List.length hd
    simp at this
    omega
  have each : ∀ i r, l[i]? = some r → cs[2 * i]? = some (.int .i64 r.1) ∧ cs[2 * i + 1]? = some (.string r.2.1) := by
    intro i r hr
    have hi : i < 19 := by rw [← hll]; exact (List.getElem?_eq_some_iff.1 hr).1
    have ht := hxs i hi
    have hxi : xs[i]? = some (xs[i]'(by omega)) := List.getElem?_eq_getElem (by omega)
    rw [hxi] at ht
    obtain ⟨y0, y1, n, e, _, t0, t1⟩ := trod_struct2 Tryz.underlying70 ht
    have he : (xs[i]'(by omega)).1 = .agg [.lit (.int .i64 r.1), .lit (.string r.2.1.data.toList)] := by
      have := congrArg (·[i]?) hd
      simp only [List.getElem?_map, hxi, hr, Option.map_some, Option.some.injEq] at this
      exact this
    rw [e] at he
    simp only [cellsI, cellsS] at t0 t1
    obtain ⟨z0, c0, rfl, _⟩ := DataW.trod_int Tryz.underlying3 t0
    obtain ⟨z1, c1, rfl, _⟩ := DataW.trod_string Tryz.underlying9 t1
    simp only [DataW.agg.injEq, List.cons.injEq, DataW.lit.injEq, Lit.int.injEq, true_and, and_true, Lit.string.injEq] at he
    obtain ⟨h0, h1⟩ := he
    have hz1 : z1 = r.2.1 := by
      cases z1 with
      | mk a =>
        cases hb : r.2.1 with
        | mk b =>
          rw [hb] at h1
          simp at h1
          rw [h1]
    have e0 := congrArg (·[0]?) c0
    have e1 := congrArg (·[0]?) c1
    simp [List.getElem?_drop] at e0 e1
    rw [Nat.mul_comm 2 i]
    exact ⟨by rw [e0, h0], by rw [e1, hz1]⟩
  apply List.ext_getElem?
  intro j
  by_cases hj : j < 38
  · obtain ⟨r, hr⟩ : ∃ r, l[j / 2]? = some r := ⟨_, List.getElem?_eq_getElem (by omega)⟩
    have a := each _ r hr
    have b := wordCells_at l _ r hr
    rcases Nat.mod_two_eq_zero_or_one j with h2 | h2
    · rw [show j = 2 * (j / 2) by omega, a.1, b.1]
    · rw [show j = 2 * (j / 2) + 1 by omega, a.2, b.2]
  · rw [List.getElem?_eq_none (by omega), List.getElem?_eq_none (by rw [wordCells_len]; omega)]

theorem tabAt_of_laid {W : World} {rest : List (String × DataW Unit)} (h : laidMet Tryz.prog (("shibboleth/schema.words", Rows.laid_shibboleth_schema_words) :: rest) W) : TabAt W := by
  obtain ⟨ps, ⟨g, t, cs, fuel, p, q, hg, ht, hvar, hd, _, _⟩, _⟩ := h
  obtain rfl := Option.some.inj ((show Tryz.prog.globalNamed "shibboleth/schema.words" = some 0 by kernel_rfl).symm.trans hg)
  obtain rfl := Option.some.inj ((show (Tryz.prog.globals[0]?).map (·.type) = some 71 by kernel_rfl).symm.trans ht)
  rw [wordsData_is] at hd
  have hc := cells_of_words hd
  have hcs : cs = (wordCells tableP).toArray := by rw [← hc]
  subst hcs
  simp only [World.var?, hg, Option.bind_some] at hvar
  split at hvar
  · rename_i c tt fr hb
    have : c = (wordCells tableP).toArray := Option.some.inj hvar
    subst this
    exact ⟨tt, fr, hb⟩
  · cases hvar
end Go.Proofs.YtpiklkbjfpfejaaGreatDoor
