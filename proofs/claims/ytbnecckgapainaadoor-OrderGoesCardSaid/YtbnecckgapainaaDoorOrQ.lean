/- Layer 23: the tables of phases and verdicts out of what is laid. -/
import Derived.Test.YtbnecckgapainaaDoorRow
import Derived.Test.YtbnecckgapainaaDoorOrG
import Derived.Test.YtbnecckgapainaaDoorOrO3
import Derived.Test.YtbnecckgapainaaDoorStr
import Derived.Test.YtbnecckgapainaaDoorRows
import Derived.Deep.Strs
import Derived.OpenShut
import Derived.LaidLaws
import Derived.LaidMore
import Derived.ChangeSame
namespace Go.Proofs.YtbnecckgapainaaDoor
open Go.RowKit Go.WideShapes Go.ChangeShapes Go.Deep
set_option maxRecDepth 100000 in
theorem cellsStr23 : Tryd.prog.cellsOf 9 = 1 := by kernel_rfl
def strsData23 {H : Type} (l : List (List UInt8)) : DataW H := .agg (l.map fun x => .lit (.string x))
theorem cells_of_strs23 {enc : TypeId × Value → Unit} {W : World} {base : Nat} {sp : Nat → Bool} {held : Bool} {fuel : Nat} {cs : List Value} {l : List (List UInt8)} {p : List MemPlace} {t : TypeId} {n : Nat}
    (hu : Tryd.prog.underlying t = some (.array n 9)) (hn : l.length = n) (hsz : Tryd.prog.cellsOf t = n) (h : DataW.trod enc Tryd.prog W base sp held fuel t cs = some (strsData23 l, p)) : cs = l.map fun x => Value.string (bs x) := by
  obtain ⟨xs, m, _, hx, hlen, hxl, hxs⟩ := DataW.trod_array hu h
  rw [hsz] at hlen
  rw [cellsStr23] at hxs
  have hd : (xs.map (·.1)) = l.map fun x => (.lit (.string x) : DataW Unit) := by
    have := congrArg Prod.fst hx
    simpa [strsData23] using this.symm
  apply List.ext_getElem?
  intro i
  by_cases hi : i < n
  · have ht := hxs i hi
    have hxi : xs[i]? = some (xs[i]'(by omega)) := List.getElem?_eq_getElem (by omega)
    have hli : l[i]? = some (l[i]'(by omega)) := List.getElem?_eq_getElem (by omega)
    rw [hxi] at ht
    obtain ⟨z, c, hz, _⟩ := DataW.trod_string Tryd.underlying9 ht
    have he : (xs[i]'(by omega)).1 = .lit (.string (l[i]'(by omega))) := by
      have := congrArg (·[i]?) hd
      simp only [List.getElem?_map, hxi, hli, Option.map_some, Option.some.injEq] at this
      exact this
    rw [hz] at he
    simp only [DataW.lit.injEq, Lit.string.injEq] at he
    have hc := congrArg (·[0]?) c
    simp [List.getElem?_drop] at hc
    rw [List.getElem?_map, hli, Option.map_some, ← he, bs_list, hc]
  · rw [List.getElem?_eq_none (by omega), List.getElem?_eq_none (by rw [List.length_map]; omega)]
set_option maxRecDepth 100000 in
theorem cellsN6 : Tryd.prog.cellsOf 52 = 6 := by kernel_rfl
set_option maxRecDepth 100000 in
theorem cellsN5 : Tryd.prog.cellsOf 53 = 5 := by kernel_rfl
def phaseLB : List (List UInt8) := [[108, 105, 110, 101], [105, 110, 105, 116], [107, 101, 120], [110, 101, 119], [111, 112, 101, 110], [100, 101, 97, 100]]
def verdictLB : List (List UInt8) := [[119, 114, 111, 110, 103], [116, 97, 107, 101], [112, 97, 115, 115], [115, 116, 114, 97, 110, 103, 101], [99, 108, 111, 115, 101]]
theorem phase_data : (Rows.laid_shibboleth_order_phaseNames : DataW Unit) = strsData23 phaseLB := by kernel_rfl
theorem verdict_data : (Rows.laid_shibboleth_order_verdictNames : DataW Unit) = strsData23 verdictLB := by kernel_rfl
def laid23 : List (String × DataW Unit) := [("shibboleth/order.phaseNames", Rows.laid_shibboleth_order_phaseNames), ("shibboleth/order.verdictNames", Rows.laid_shibboleth_order_verdictNames)]
theorem laid_rest23 {P : Program} {x : String × DataW Unit} {rest : List (String × DataW Unit)} {W : World} (h : laidMet P (x :: rest) W) : laidMet P rest W := by
  obtain ⟨ps, ⟨g, t, cs, fuel, p, q, hg, ht, hvar, hd, hr, rfl⟩, hnd, hk⟩ := h
  exact ⟨q, hr, (List.nodup_append.1 hnd).2.1, fun b off hm => hk b off (by simp [hm])⟩
theorem tab23_of_laid {W : World} (h : laidMet Tryd.prog laid23 W) : Tab23 W := by
  have h2 := laid_rest23 h
  constructor
  · obtain ⟨ps, ⟨g, t, cs, fuel, p, q, hg, ht, hvar, hd, _, _⟩, _⟩ := h
    obtain rfl := Option.some.inj ((show Tryd.prog.globalNamed "shibboleth/order.phaseNames" = some 0 by kernel_rfl).symm.trans hg)
    obtain rfl := Option.some.inj ((show (Tryd.prog.globals[0]?).map (·.type) = some 52 by kernel_rfl).symm.trans ht)
    rw [phase_data] at hd
    have hc := cells_of_strs23 Tryd.underlying52 rfl cellsN6 hd
    have hcs : cs = (phaseL.map Value.string).toArray := by
      have e : (phaseLB.map fun x => Value.string (bs x)) = phaseL.map Value.string := rfl
      rw [← e, ← hc]
    subst hcs
    simp only [World.var?, hg, Option.bind_some] at hvar
    split at hvar
    · rename_i c tt fr hb
      obtain rfl := Option.some.inj hvar
      exact ⟨tt, fr, hb⟩
    · cases hvar
  · obtain ⟨ps, ⟨g, t, cs, fuel, p, q, hg, ht, hvar, hd, _, _⟩, _⟩ := h2
    obtain rfl := Option.some.inj ((show Tryd.prog.globalNamed "shibboleth/order.verdictNames" = some 1 by kernel_rfl).symm.trans hg)
    obtain rfl := Option.some.inj ((show (Tryd.prog.globals[1]?).map (·.type) = some 53 by kernel_rfl).symm.trans ht)
    rw [verdict_data] at hd
    have hc := cells_of_strs23 Tryd.underlying53 rfl cellsN5 hd
    have hcs : cs = (verdictL.map Value.string).toArray := by
      have e : (verdictLB.map fun x => Value.string (bs x)) = verdictL.map Value.string := rfl
      rw [← e, ← hc]
    subst hcs
    simp only [World.var?, hg, Option.bind_some] at hvar
    split at hvar
    · rename_i c tt fr hb
      obtain rfl := Option.some.inj hvar
      exact ⟨tt, fr, hb⟩
    · cases hvar
end Go.Proofs.YtbnecckgapainaaDoor
