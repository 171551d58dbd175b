/- A group among the arguments, opened; the sizes out of what is laid. -/
import Derived.Test.YtihkhcocfhbekaaDoorRow
import Derived.Test.YtihkhcocfhbekaaDoorGx4
import Derived.Test.YtihkhcocfhbekaaDoorRows
import Derived.Deep.Strs
import Derived.OpenShut
import Derived.WideKeyArgs
import Derived.LaidLaws
import Derived.LaidMore
import Derived.ChangeSame
namespace Go.Proofs.YtihkhcocfhbekaaDoor
open Go.RowKit Go.WideShapes Go.ChangeShapes Go.Deep
section
variable {H : Type} {enc : TypeId × Value → H} {w : World} {base : Nat}
set_option maxRecDepth 100000 in
theorem cellsStr18 : Tryd.prog.cellsOf 9 = 1 := by kernel_rfl
set_option maxRecDepth 100000 in
theorem cellsInt18 : Tryd.prog.cellsOf 3 = 1 := by kernel_rfl
set_option maxRecDepth 100000 in
theorem cellsGroup18 : Tryd.prog.cellsOf 51 = 2 := by kernel_rfl
set_option maxRecDepth 100000 in
theorem open_group {v : Value} {d : DataW H} {p : List MemPlace} {b0 : Nat} (hv : Value.okWide Tryd.prog w .any b0 51 v) (h : DataW.Trod enc Tryd.prog w base (fun _ => true) true 51 v d p) :
    ∃ P G : ByteArray, v = .agg #[.string P, .string G] ∧ P.size ≤ maxLen ∧ G.size ≤ maxLen := by
  obtain ⟨cs, rfl, hcs⟩ := okWide_struct Tryd.underlying51 hv
  obtain ⟨fuel, hf⟩ := h
  obtain ⟨xs, m', _, hxe, hlen, hxl, hxs⟩ := DataW.trod_struct Tryd.underlying51 hf
  rw [cellsGroup18] at hlen
  obtain ⟨l⟩ := cs
  simp only [Value.cells] at hlen hxs
  match l, hlen with
  | [c0, c1], _ =>
    have t0 : DataW.trod enc Tryd.prog w base _ _ m' 9 ((([c0, c1] : List Value).drop 0).take (Tryd.prog.cellsOf 9)) = xs[0]? := hxs 0 _ rfl
    have t1 : DataW.trod enc Tryd.prog w base _ _ m' 9 ((([c0, c1] : List Value).drop 1).take (Tryd.prog.cellsOf 9)) = xs[1]? := hxs 1 _ rfl
    simp only [cellsStr18] at t0 t1
    match xs, hxl with
    | [y0, y1], _ =>
      simp at t0 t1
      obtain ⟨z0, e0, _, m0⟩ := DataW.trod_string Tryd.underlying9 t0
      obtain ⟨z1, e1, _, m1⟩ := DataW.trod_string Tryd.underlying9 t1
      simp at e0 e1
      subst e0 e1
      exact ⟨z0, z1, rfl, m0, m1⟩
end
/-- Four numbers as the text lays them. -/
def sizesData {H : Type} : DataW H := .agg [.lit (.int .i64 1024), .lit (.int .i64 2048), .lit (.int .i64 3072), .lit (.int .i64 4096)]
set_option maxRecDepth 100000 in
theorem cellsSizes18 : Tryd.prog.cellsOf 89 = 4 := by kernel_rfl
theorem sizes_data : (Rows.laid_shibboleth_gex_sizes : DataW Unit) = sizesData := by kernel_rfl
theorem cells_of_ints {enc : TypeId × Value → Unit} {W : World} {base : Nat} {sp : Nat → Bool} {held : Bool} {fuel : Nat} {cs : List Value} {l : List Int} {p : List MemPlace} {t : TypeId} {n : Nat}
    (hu : Tryd.prog.underlying t = some (.array n 3)) (hn : l.length = n) (hsz : Tryd.prog.cellsOf t = n) (h : DataW.trod enc Tryd.prog W base sp held fuel t cs = some (.agg (l.map fun x => .lit (.int .i64 x)), p)) : cs = l.map fun x => Value.int .i64 x := by
  obtain ⟨xs, m, _, hx, hlen, hxl, hxs⟩ := DataW.trod_array hu h
  rw [hsz] at hlen
  rw [cellsInt18] at hxs
  have hd : (xs.map (·.1)) = l.map fun x => (.lit (.int .i64 x) : DataW Unit) := by
    have := congrArg Prod.fst hx
    simpa using this.symm
  apply List.ext_getElem?
  intro i
  by_cases hi : i < n
  · have ht := hxs i hi
    have hxi : xs[i]? = some (xs[i]'(by omega)) := List.getElem?_eq_getElem (by omega)
    have hli : l[i]? = some (l[i]'(by omega)) := List.getElem?_eq_getElem (by omega)
    rw [hxi] at ht
    obtain ⟨z, c, hz, _⟩ := DataW.trod_int Tryd.underlying3 ht
    have he : (xs[i]'(by omega)).1 = .lit (.int .i64 (l[i]'(by omega))) := by
      have := congrArg (·[i]?) hd
      simp only [List.getElem?_map, hxi, hli, Option.map_some, Option.some.injEq] at this
      exact this
    rw [hz] at he
    simp only [DataW.lit.injEq, Lit.int.injEq, true_and] at he
    have hc := congrArg (·[0]?) c
    simp [List.getElem?_drop] at hc
    rw [List.getElem?_map, hli, Option.map_some, ← he, hc]
  · rw [List.getElem?_eq_none (by omega), List.getElem?_eq_none (by rw [List.length_map]; omega)]
def laid18 : List (String × DataW Unit) := [("unicode/utf8.acceptRanges", Rows.laid_unicode_utf8_acceptRanges), ("shibboleth/gex.sizes", Rows.laid_shibboleth_gex_sizes), ("unicode/utf8.first", Rows.laid_unicode_utf8_first)]
theorem laid_rest18 {P : Program} {x : String × DataW Unit} {rest : List (String × DataW Unit)} {W : World} (h : laidMet P (x :: rest) W) : laidMet P rest W := by
  obtain ⟨ps, ⟨g, t, cs, fuel, p, q, hg, ht, hvar, hd, hr, rfl⟩, hnd, hk⟩ := h
  exact ⟨q, hr, (List.nodup_append.1 hnd).2.1, fun b off hm => hk b off (by simp [hm])⟩
theorem siz_of_laid {W : World} (h0 : laidMet Tryd.prog laid18 W) : Siz W := by
  have h := laid_rest18 h0
  obtain ⟨ps, ⟨g, t, cs, fuel, p, q, hg, ht, hvar, hd, _, _⟩, _⟩ := h
  obtain rfl := Option.some.inj ((show Tryd.prog.globalNamed "shibboleth/gex.sizes" = some 0 by kernel_rfl).symm.trans hg)
  obtain rfl := Option.some.inj ((show (Tryd.prog.globals[0]?).map (·.type) = some 89 by kernel_rfl).symm.trans ht)
  rw [sizes_data] at hd
  have hc := cells_of_ints (l := [1024, 2048, 3072, 4096]) Tryd.underlying89 rfl cellsSizes18 hd
  have hcs : cs = #[.int .i64 1024, .int .i64 2048, .int .i64 3072, .int .i64 4096] := by
    apply Array.toList_inj.1
    rw [hc]
    rfl
  subst hcs
  simp only [World.var?, hg, Option.bind_some] at hvar
  split at hvar
  · rename_i c tt fr hb
    obtain rfl := Option.some.inj hvar
    exact ⟨tt, fr, hb⟩
  · cases hvar
end Go.Proofs.YtihkhcocfhbekaaDoor
