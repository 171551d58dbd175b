/- Part 34 of what the statement wants. -/
import Derived.Test.YtgoinpibllomfaaDoorRows
import Derived.ProofKit
import Derived.Below
import Derived.ChangeSame
import Derived.OpenShut
import Derived.WideKeyArgs
import Derived.Deep.Slices
import Derived.Deep.Strs
import Derived.LaidLaws
import Derived.LaidMore
import Derived.Test.YtgoinpibllomfaaDoorPk00
import Derived.Test.YtgoinpibllomfaaDoorPk02
import Derived.Test.YtgoinpibllomfaaDoorPk08
import Derived.Test.YtgoinpibllomfaaDoorPk16
namespace Go.Proofs.YtgoinpibllomfaaDoor
open Go.RowKit Go.WideShapes Go.ChangeShapes
theorem ownKnobOf : ownKnob Tryd.prog.godebug = none := by kernel_rfl
section
variable {H : Type} {enc : TypeId × Value → H} {P : Program}
theorem post_of_below {f : Func} {s : ChangeSpec} {apart fresh handsOn again : Bool} {W W' : World} {args : Array Value} {v : Value} {ds gs : List (DataW H)} {before pa pv : List MemPlace}
    (hW : DataW.Whole enc P f.params.toList s.vars apart W args.toList ds gs before)
    (hres : ∀ (b : Nat) (sp : Nat → Bool) (hd : Bool), DataW.TrodAll enc P W' b sp hd f.resultTypes.toList (v.resultList f.resultTypes.size) (s.fn H (ds ++ gs)).results [])
    (hargs : ∀ sp : Nat → Bool, (∀ p ∈ before, sp p.block = true) → DataW.TrodAll enc P W' 0 sp true f.params.toList args.toList (s.fn H (ds ++ gs)).args pa)
    (hvars : ∀ sp : Nat → Bool, (∀ p ∈ before, sp p.block = true) → DataW.TrodVars enc P W' sp s.vars (s.fn H (ds ++ gs)).vars pv)
    (hps : before = pa ++ pv) (hb : Below W.heap.size W W')
    (hok : ∀ (j : Nat) (t : TypeId) (r : Value), f.resultTypes[j]? = some t → (v.resultList f.resultTypes.size)[j]? = some r → Value.okWide P W' .any 0 t r) :
    s.post enc P f apart fresh handsOn again W args v W' := by
  have hlt : ∀ p ∈ before, p.block < W.heap.size := fun p hp => hW.lt p hp
  have hold : ∀ p ∈ before, (fun b => decide (b < W.heap.size)) p.block = true := fun p hp => by simpa using hlt p hp
  refine ⟨ds, gs, before, [], pa, pv, hW, hres _ _ _, hargs _ hold, hvars _ hold, World.keptBut_mono (fun p hp => ⟨hp, ?_⟩) (hb.frame (· ∈ before)), fun _ => ?_⟩
  · rw [hps, List.mem_append] at hp
    exact Or.inr hp
  · obtain ⟨_, _, _, _, _, hz, hn⟩ := hW
    refine ⟨hok, _, _, ([] ++ pa) ++ pv, ⟨[] ++ pa, pv, trodAll_append (hargs _ (fun _ _ => rfl)) (hres _ _ _), hvars _ (fun _ _ => rfl), rfl, ?_, ?_⟩, ?_⟩
    · intro b off hp
      have hin : MemPlace.cell b off ∈ before := by rw [hps]; simpa using hp
      rw [hb.frozen (hlt _ hin)]
      exact hz b off hin
    · intro ha
      have := hn ha
      rw [hps] at this
      simpa using this
    · intro p hp _
      rw [hps]
      simpa using hp
end
end Go.Proofs.YtgoinpibllomfaaDoor

namespace Go.Proofs.YtgoinpibllomfaaDoor
open Go.RowKit Go.WideShapes Go.ChangeShapes Go.Deep
theorem laidAll : laidOutB Tryd.prog = true := by kernel_rfl
section
variable {H : Type} {enc : TypeId × Value → H} {P : Program}
theorem trodAll_stays (hl : laidOutB P = true) {W W' : World} (hb : Below W.heap.size W W') : ∀ {ts : List TypeId} {vs : List Value} {ds : List (DataW H)} {ps : List MemPlace}, (∀ t ∈ ts, P.readableRec t = true ∧ t < P.types.size) →
    DataW.TrodAll enc P W 0 (fun _ => true) true ts vs ds ps → (∀ x ∈ ps, x.block < W.heap.size) → ∀ sp : Nat → Bool, (∀ x ∈ ps, sp x.block = true) → DataW.TrodAll enc P W' 0 sp true ts vs ds ps
  | [], [], [], ps, _, h, _, _, _ => h
  | t :: ts, v :: vs, d :: ds, ps, hr, h, hlt, sp, hsp => by
    obtain ⟨p, q, h1, h2, rfl⟩ := h
    exact ⟨p, q, WideElems.Trod_stays hl (hr t (by simp)).1 (hr t (by simp)).2 h1 (fun x hx => hb.same (hlt x (by simp [hx]))) (fun x hx => hsp x (by simp [hx])),
      trodAll_stays hl hb (fun u hu => hr u (by simp [hu])) h2 (fun x hx => hlt x (by simp [hx])) sp (fun x hx => hsp x (by simp [hx])), rfl⟩
  | [], _ :: _, _, _, _, h, _, _, _ => by cases h
  | [], [], _ :: _, _, _, h, _, _, _ => by cases h
  | _ :: _, [], _, _, _, h, _, _, _ => by cases h
  | _ :: _, _ :: _, [], _, _, h, _, _, _ => by cases h
end
end Go.Proofs.YtgoinpibllomfaaDoor

namespace Go.Proofs.YtgoinpibllomfaaDoor
open Go.RowKit Go.WideShapes Go.ChangeShapes Go.Deep
section
variable {H : Type} {enc : TypeId × Value → H} {w : World} {base : Nat}
set_option maxRecDepth 100000 in
theorem cellsStr15 : Tryd.prog.cellsOf 9 = 1 := by kernel_rfl
set_option maxRecDepth 100000 in
theorem texts_cell {c : Value} {fuel : Nat} {d : DataW H} {p : List MemPlace} (hf : DataW.trod enc Tryd.prog w base (fun _ => true) true fuel 23 [c] = some (d, p)) :
    ∃ l : List ByteArray, TextsAt w c l ∧ l.length ≤ maxLen ∧ (∀ x ∈ l, x.size ≤ maxLen) ∧ Room15 c := by
  rcases open_strs Tryd.underlying23 Tryd.underlying9 cellsStr15 hf with ⟨h1, _⟩ | ⟨a, len, cap, m, Sx, h1, hb, hl, hc, hm, hx, hi⟩
  · simp only [List.cons.injEq, and_true] at h1
    rw [h1]
    exact ⟨[], ⟨none, 0, rfl, fun h => absurd rfl h⟩, by simp, by simp, fun _ _ _ e => by injection e with _ e2 e3; omega⟩
  · simp only [List.cons.injEq, and_true] at h1
    have hmc : m = cap := by simpa using hm
    rw [h1]
    have hlc : Room15 (.slice (some a) len cap) := fun _ _ _ e => by
      injection e with _ e2 e3
      omega
    rcases Nat.eq_zero_or_pos len with h0 | h0
    · subst h0
      exact ⟨[], ⟨some a, cap, rfl, fun h => absurd rfl h⟩, by simp, by simp, hlc⟩
    · obtain ⟨b, off, spot⟩ := a
      have hspot : spot = none := by simpa [Addr.add] using World.cell?_spot (hi 0 (by omega)).1
      subst hspot
      have hblk := World.block_lt_of_cell? w _ (hi 0 (by omega)).1
      simp only [Addr.add_lit] at hi hblk
      refine ⟨(List.range len).map Sx, ⟨some ⟨b, off, none⟩, cap, by simp, fun _ => ⟨b, off, rfl, hblk, fun k x hk => ?_⟩⟩, by simp; omega, ?_, hlc⟩
      · rw [List.getElem?_map] at hk
        by_cases hkl : k < len
        · rw [List.getElem?_range hkl] at hk
          simp only [Option.map_some, Option.some.injEq] at hk
          rw [← hk]
          exact (hi k (by omega)).1
        · rw [List.getElem?_eq_none (by simp; omega)] at hk
          simp at hk
      · intro x hx'
        obtain ⟨k, hk, rfl⟩ := List.mem_map.1 hx'
        exact (hi k (by have := List.mem_range.1 hk; omega)).2
theorem texts_cell2 {c : Value} {fuel : Nat} {d : DataW H} {p : List MemPlace} (hf : DataW.trod enc Tryd.prog w base (fun _ => true) true fuel 23 [c] = some (d, p)) :
    ∃ l : List (List UInt8), TextsAt w c (l.map bs) ∧ l.length ≤ maxLen ∧ (∀ x ∈ l, x.length ≤ maxLen) ∧ Room15 c := by
  obtain ⟨l, h1, h2, h3, h4⟩ := texts_cell hf
  have e : (l.map fun x => x.data.toList).map bs = l := by
    rw [List.map_map]
    conv => rhs; rw [← List.map_id l]
    exact List.map_congr_left fun x _ => bs_list x
  refine ⟨l.map fun x => x.data.toList, by rw [e]; exact h1, by rw [List.length_map]; exact h2, fun x hx => ?_, h4⟩
  obtain ⟨y, hy, rfl⟩ := List.mem_map.1 hx
  have := h3 y hy
  rw [Array.length_toList]
  exact this
def pick8 {α : Type} (u0 u1 u2 u3 u4 u5 u6 u7 : α) : Nat → α
  | 0 => u0 | 1 => u1 | 2 => u2 | 3 => u3 | 4 => u4 | 5 => u5 | 6 => u6 | _ => u7
end
end Go.Proofs.YtgoinpibllomfaaDoor

namespace Go.Proofs.YtgoinpibllomfaaDoor
set_option maxRecDepth 100000 in
theorem cellsPrefs15 : Tryd.prog.cellsOf 46 = 8 := by kernel_rfl
end Go.Proofs.YtgoinpibllomfaaDoor

namespace Go.Proofs.YtgoinpibllomfaaDoor
open Go.RowKit Go.WideShapes Go.ChangeShapes Go.Deep
section
variable {H : Type} {enc : TypeId × Value → H} {w : World} {base : Nat}
end
/-- A table of strings as the text lays it. -/
def strsData {H : Type} (l : List (List UInt8)) : DataW H := .agg (l.map fun x => .lit (.string x))
theorem cells_of_strs {enc : TypeId × Value → Unit} {W : World} {base : Nat} {sp : Nat → Bool} {held : Bool} {fuel : Nat} {cs : List Value} {l : List (List UInt8)} {p : List MemPlace} {t : TypeId} {n : Nat}
    (hu : Tryd.prog.underlying t = some (.array n 9)) (hn : l.length = n) (hsz : Tryd.prog.cellsOf t = n) (h : DataW.trod enc Tryd.prog W base sp held fuel t cs = some (strsData l, p)) : cs = l.map fun x => Value.string (bs x) := by
  obtain ⟨xs, m, _, hx, hlen, hxl, hxs⟩ := DataW.trod_array hu h
  rw [hsz] at hlen
  rw [cellsStr15] at hxs
  have hd : (xs.map (·.1)) = l.map fun x => (.lit (.string x) : DataW Unit) := by
    have := congrArg Prod.fst hx
    simpa [strsData] using this.symm
  apply List.ext_getElem?
  intro i
  by_cases hi : i < n
  · have ht := hxs i hi
    have hxi : xs[i]? = some (xs[i]'(by omega)) := List.getElem?_eq_getElem (by omega)
    have hli : l[i]? = some (l[i]'(by omega)) := List.getElem?_eq_getElem (by omega)
    rw [hxi] at ht
    obtain ⟨z, c, hz, _⟩ := DataW.trod_string Tryd.underlying9 ht
    have he : (xs[i]'(by omega)).1 = .lit (.string (l[i]'(by omega))) := by
      have := congrArg (·[i]?) hd
      simp only [List.getElem?_map, hxi, hli, Option.map_some, Option.some.injEq] at this
      exact this
    rw [hz] at he
    simp only [DataW.lit.injEq, Lit.string.injEq] at he
    have hc := congrArg (·[0]?) c
    simp [List.getElem?_drop] at hc
    rw [List.getElem?_map, hli, Option.map_some, ← he, bs_list, hc]
  · rw [List.getElem?_eq_none (by omega), List.getElem?_eq_none (by rw [List.length_map]; omega)]
set_option maxRecDepth 100000 in
theorem cellsN4 : Tryd.prog.cellsOf 98 = 4 := by kernel_rfl
set_option maxRecDepth 100000 in
theorem cellsN8 : Tryd.prog.cellsOf 138 = 8 := by kernel_rfl
theorem names_data : (Rows.laid_shibboleth_prefs_methodNames : DataW Unit) = strsData names4 := by kernel_rfl
theorem words_data : (Rows.laid_shibboleth_prefs_listWords : DataW Unit) = strsData pfWords := by kernel_rfl
def laid15 : List (String × DataW Unit) := [("shibboleth/prefs.methodNames", Rows.laid_shibboleth_prefs_methodNames), ("shibboleth/prefs.listWords", Rows.laid_shibboleth_prefs_listWords)]
theorem laid_rest {P : Program} {x : String × DataW Unit} {rest : List (String × DataW Unit)} {W : World} (h : laidMet P (x :: rest) W) : laidMet P rest W := by
  obtain ⟨ps, ⟨g, t, cs, fuel, p, q, hg, ht, hvar, hd, hr, rfl⟩, hnd, hk⟩ := h
  exact ⟨q, hr, (List.nodup_append.1 hnd).2.1, fun b off hm => hk b off (by simp [hm])⟩
theorem tab15_of_laid {W : World} (h : laidMet Tryd.prog laid15 W) : Tab15 W := by
  have h2 := laid_rest h
  constructor
  · obtain ⟨ps, ⟨g, t, cs, fuel, p, q, hg, ht, hvar, hd, _, _⟩, _⟩ := h
    obtain rfl := Option.some.inj ((show Tryd.prog.globalNamed "shibboleth/prefs.methodNames" = some 0 by kernel_rfl).symm.trans hg)
    obtain rfl := Option.some.inj ((show (Tryd.prog.globals[0]?).map (·.type) = some 98 by kernel_rfl).symm.trans ht)
    rw [names_data] at hd
    have hc := cells_of_strs Tryd.underlying98 rfl cellsN4 hd
    have hcs : cs = (names4.map fun x => Value.string (bs x)).toArray := by rw [← hc]
    subst hcs
    simp only [World.var?, hg, Option.bind_some] at hvar
    split at hvar
    · rename_i c tt fr hb
      obtain rfl := Option.some.inj hvar
      exact ⟨tt, fr, hb⟩
    · cases hvar
  · obtain ⟨ps, ⟨g, t, cs, fuel, p, q, hg, ht, hvar, hd, _, _⟩, _⟩ := h2
    obtain rfl := Option.some.inj ((show Tryd.prog.globalNamed "shibboleth/prefs.listWords" = some 2 by kernel_rfl).symm.trans hg)
    obtain rfl := Option.some.inj ((show (Tryd.prog.globals[2]?).map (·.type) = some 138 by kernel_rfl).symm.trans ht)
    rw [words_data] at hd
    have hc := cells_of_strs Tryd.underlying138 rfl cellsN8 hd
    have hcs : cs = (pfWords.map fun x => Value.string (bs x)).toArray := by rw [← hc]
    subst hcs
    simp only [World.var?, hg, Option.bind_some] at hvar
    split at hvar
    · rename_i c tt fr hb
      obtain rfl := Option.some.inj hvar
      exact ⟨tt, fr, hb⟩
    · cases hvar
end Go.Proofs.YtgoinpibllomfaaDoor
