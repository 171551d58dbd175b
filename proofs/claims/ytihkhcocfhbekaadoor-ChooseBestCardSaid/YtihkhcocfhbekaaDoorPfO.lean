/- Preferences among the arguments, opened; the two tables out of what is laid. -/
import Derived.Test.YtihkhcocfhbekaaDoorPfOa
import Derived.Test.YtihkhcocfhbekaaDoorPfN
import Derived.Test.YtihkhcocfhbekaaDoorPfR
import Derived.Test.YtihkhcocfhbekaaDoorRows
import Derived.Deep.Strs
import Derived.OpenShut
import Derived.WideKeyArgs
import Derived.LaidLaws
import Derived.LaidMore
import Derived.ChangeSame
namespace Go.Proofs.YtihkhcocfhbekaaDoor
open Go.RowKit Go.WideShapes Go.ChangeShapes Go.Deep
section
variable {H : Type} {enc : TypeId × Value → H} {w : World} {base : Nat}
set_option maxRecDepth 100000 in
theorem open_prefs {v : Value} {d : DataW H} {p : List MemPlace} {b0 : Nat} (hv : Value.okWide Tryd.prog w .any b0 24 v) (h : DataW.Trod enc Tryd.prog w base (fun _ => true) true 24 v d p) :
    ∃ u q, v = agg8 u ∧ Eight w u q ∧ ∀ k < 8, ∀ x ∈ q k, x.length ≤ maxLen := by
  obtain ⟨cs, rfl, hcs⟩ := okWide_struct Tryd.underlying24 hv
  obtain ⟨fuel, hf⟩ := h
  obtain ⟨xs, m', _, hxe, hlen, hxl, hxs⟩ := DataW.trod_struct Tryd.underlying24 hf
  rw [cellsPrefs15] at hlen
  obtain ⟨l⟩ := cs
  simp only [Value.cells] at hlen hxs
  match l, hlen with
  | [c0, c1, c2, c3, c4, c5, c6, c7], _ =>
    have t0 : DataW.trod enc Tryd.prog w base _ _ m' 22 ((([c0, c1, c2, c3, c4, c5, c6, c7] : List Value).drop 0).take (Tryd.prog.cellsOf 22)) = xs[0]? := hxs 0 _ rfl
    have t1 : DataW.trod enc Tryd.prog w base _ _ m' 22 ((([c0, c1, c2, c3, c4, c5, c6, c7] : List Value).drop 1).take (Tryd.prog.cellsOf 22)) = xs[1]? := hxs 1 _ rfl
    have t2 : DataW.trod enc Tryd.prog w base _ _ m' 22 ((([c0, c1, c2, c3, c4, c5, c6, c7] : List Value).drop 2).take (Tryd.prog.cellsOf 22)) = xs[2]? := hxs 2 _ rfl
    have t3 : DataW.trod enc Tryd.prog w base _ _ m' 22 ((([c0, c1, c2, c3, c4, c5, c6, c7] : List Value).drop 3).take (Tryd.prog.cellsOf 22)) = xs[3]? := hxs 3 _ rfl
    have t4 : DataW.trod enc Tryd.prog w base _ _ m' 22 ((([c0, c1, c2, c3, c4, c5, c6, c7] : List Value).drop 4).take (Tryd.prog.cellsOf 22)) = xs[4]? := hxs 4 _ rfl
    have t5 : DataW.trod enc Tryd.prog w base _ _ m' 22 ((([c0, c1, c2, c3, c4, c5, c6, c7] : List Value).drop 5).take (Tryd.prog.cellsOf 22)) = xs[5]? := hxs 5 _ rfl
    have t6 : DataW.trod enc Tryd.prog w base _ _ m' 22 ((([c0, c1, c2, c3, c4, c5, c6, c7] : List Value).drop 6).take (Tryd.prog.cellsOf 22)) = xs[6]? := hxs 6 _ rfl
    have t7 : DataW.trod enc Tryd.prog w base _ _ m' 22 ((([c0, c1, c2, c3, c4, c5, c6, c7] : List Value).drop 7).take (Tryd.prog.cellsOf 22)) = xs[7]? := hxs 7 _ rfl
    simp only [cellsStrs15] at t0 t1 t2 t3 t4 t5 t6 t7
    match xs, hxl with
    | [y0, y1, y2, y3, y4, y5, y6, y7], _ =>
      simp at t0 t1 t2 t3 t4 t5 t6 t7
      obtain ⟨l0, p0, q0, r0, s0⟩ := texts_cell2 t0
      obtain ⟨l1, p1, q1, r1, s1⟩ := texts_cell2 t1
      obtain ⟨l2, p2, q2, r2, s2⟩ := texts_cell2 t2
      obtain ⟨l3, p3, q3, r3, s3⟩ := texts_cell2 t3
      obtain ⟨l4, p4, q4, r4, s4⟩ := texts_cell2 t4
      obtain ⟨l5, p5, q5, r5, s5⟩ := texts_cell2 t5
      obtain ⟨l6, p6, q6, r6, s6⟩ := texts_cell2 t6
      obtain ⟨l7, p7, q7, r7, s7⟩ := texts_cell2 t7
      refine ⟨pick8 c0 c1 c2 c3 c4 c5 c6 c7, pick8 l0 l1 l2 l3 l4 l5 l6 l7, rfl, ⟨fun k hk => ?_, fun k hk => ?_, fun k hk => ?_⟩, fun k hk => ?_⟩
      · match k, hk with
        | 0, _ => exact p0
        | 1, _ => exact p1
        | 2, _ => exact p2
        | 3, _ => exact p3
        | 4, _ => exact p4
        | 5, _ => exact p5
        | 6, _ => exact p6
        | 7, _ => exact p7
        | k + 8, h => exact absurd h (by omega)
      · match k, hk with
        | 0, _ => exact s0
        | 1, _ => exact s1
        | 2, _ => exact s2
        | 3, _ => exact s3
        | 4, _ => exact s4
        | 5, _ => exact s5
        | 6, _ => exact s6
        | 7, _ => exact s7
        | k + 8, h => exact absurd h (by omega)
      · match k, hk with
        | 0, _ => exact q0
        | 1, _ => exact q1
        | 2, _ => exact q2
        | 3, _ => exact q3
        | 4, _ => exact q4
        | 5, _ => exact q5
        | 6, _ => exact q6
        | 7, _ => exact q7
        | k + 8, h => exact absurd h (by omega)
      · match k, hk with
        | 0, _ => exact r0
        | 1, _ => exact r1
        | 2, _ => exact r2
        | 3, _ => exact r3
        | 4, _ => exact r4
        | 5, _ => exact r5
        | 6, _ => exact r6
        | 7, _ => exact r7
        | k + 8, h => exact absurd h (by omega)
end
/-- A table of strings as the text lays it. -/
def strsData {H : Type} (l : List (List UInt8)) : DataW H := .agg (l.map fun x => .lit (.string x))
theorem cells_of_strs {enc : TypeId × Value → Unit} {W : World} {base : Nat} {sp : Nat → Bool} {held : Bool} {fuel : Nat} {cs : List Value} {l : List (List UInt8)} {p : List MemPlace} {t : TypeId} {n : Nat}
    (hu : Tryd.prog.underlying t = some (.array n 9)) (hn : l.length = n) (hsz : Tryd.prog.cellsOf t = n) (h : DataW.trod enc Tryd.prog W base sp held fuel t cs = some (strsData l, p)) : cs = l.map fun x => Value.string (bs x) := by
  obtain ⟨xs, m, _, hx, hlen, hxl, hxs⟩ := DataW.trod_array hu h
  rw [hsz] at hlen
  rw [cellsStr15] at hxs
  have hd : (xs.map (·.1)) = l.map fun x => (.lit (.string x) : DataW Unit) := by
    have := congrArg Prod.fst hx
    simpa [strsData] using this.symm
  apply List.ext_getElem?
  intro i
  by_cases hi : i < n
  · have ht := hxs i hi
    have hxi : xs[i]? = some (xs[i]'(by omega)) := List.getElem?_eq_getElem (by omega)
    have hli : l[i]? = some (l[i]'(by omega)) := List.getElem?_eq_getElem (by omega)
    rw [hxi] at ht
    obtain ⟨z, c, hz, _⟩ := DataW.trod_string Tryd.underlying9 ht
    have he : (xs[i]'(by omega)).1 = .lit (.string (l[i]'(by omega))) := by
      have := congrArg (·[i]?) hd
      simp only [List.getElem?_map, hxi, hli, Option.map_some, Option.some.injEq] at this
      exact this
    rw [hz] at he
    simp only [DataW.lit.injEq, Lit.string.injEq] at he
    have hc := congrArg (·[0]?) c
    simp [List.getElem?_drop] at hc
    rw [List.getElem?_map, hli, Option.map_some, ← he, bs_list, hc]
  · rw [List.getElem?_eq_none (by omega), List.getElem?_eq_none (by rw [List.length_map]; omega)]
set_option maxRecDepth 100000 in
theorem cellsN4 : Tryd.prog.cellsOf 105 = 4 := by kernel_rfl
set_option maxRecDepth 100000 in
theorem cellsN8 : Tryd.prog.cellsOf 73 = 8 := by kernel_rfl
theorem names_data : (Rows.laid_shibboleth_prefs_methodNames : DataW Unit) = strsData names4 := by kernel_rfl
theorem words_data : (Rows.laid_shibboleth_prefs_listWords : DataW Unit) = strsData pfWords := by kernel_rfl
def laid15 : List (String × DataW Unit) := [("shibboleth/prefs.methodNames", Rows.laid_shibboleth_prefs_methodNames), ("shibboleth/prefs.listWords", Rows.laid_shibboleth_prefs_listWords)]
theorem laid_rest {P : Program} {x : String × DataW Unit} {rest : List (String × DataW Unit)} {W : World} (h : laidMet P (x :: rest) W) : laidMet P rest W := by
  obtain ⟨ps, ⟨g, t, cs, fuel, p, q, hg, ht, hvar, hd, hr, rfl⟩, hnd, hk⟩ := h
  exact ⟨q, hr, (List.nodup_append.1 hnd).2.1, fun b off hm => hk b off (by simp [hm])⟩
theorem tab15_of_laid {W : World} (h : laidMet Tryd.prog laid15 W) : Tab15 W := by
  have h2 := laid_rest h
  constructor
  · obtain ⟨ps, ⟨g, t, cs, fuel, p, q, hg, ht, hvar, hd, _, _⟩, _⟩ := h
    obtain rfl := Option.some.inj ((show Tryd.prog.globalNamed "shibboleth/prefs.methodNames" = some 2 by kernel_rfl).symm.trans hg)
    obtain rfl := Option.some.inj ((show (Tryd.prog.globals[2]?).map (·.type) = some 105 by kernel_rfl).symm.trans ht)
    rw [names_data] at hd
    have hc := cells_of_strs Tryd.underlying105 rfl cellsN4 hd
    have hcs : cs = (names4.map fun x => Value.string (bs x)).toArray := by rw [← hc]
    subst hcs
    simp only [World.var?, hg, Option.bind_some] at hvar
    split at hvar
    · rename_i c tt fr hb
      obtain rfl := Option.some.inj hvar
      exact ⟨tt, fr, hb⟩
    · cases hvar
  · obtain ⟨ps, ⟨g, t, cs, fuel, p, q, hg, ht, hvar, hd, _, _⟩, _⟩ := h2
    obtain rfl := Option.some.inj ((show Tryd.prog.globalNamed "shibboleth/prefs.listWords" = some 1 by kernel_rfl).symm.trans hg)
    obtain rfl := Option.some.inj ((show (Tryd.prog.globals[1]?).map (·.type) = some 73 by kernel_rfl).symm.trans ht)
    rw [words_data] at hd
    have hc := cells_of_strs Tryd.underlying73 rfl cellsN8 hd
    have hcs : cs = (pfWords.map fun x => Value.string (bs x)).toArray := by rw [← hc]
    subst hcs
    simp only [World.var?, hg, Option.bind_some] at hvar
    split at hvar
    · rename_i c tt fr hb
      obtain rfl := Option.some.inj hvar
      exact ⟨tt, fr, hb⟩
    · cases hvar
end Go.Proofs.YtihkhcocfhbekaaDoor
