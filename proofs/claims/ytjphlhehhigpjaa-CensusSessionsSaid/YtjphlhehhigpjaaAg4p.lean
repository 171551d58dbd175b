/- Maps of any element type, as functions of their keys. -/
import Derived.Test.YtjphlhehhigpjaaEv5
import Derived.Test.YtjphlhehhigpjaaEvQ
import Derived.Maps.Keyed
import Derived.DeepKeys4
import Derived.WideKeyMaps2
import Derived.Laws.CopyOwn
namespace Go.Proofs.Ytjphlhehhigpjaa
open Go.RowKit Go.Maps Go.WideMaps

/-- How an element of any type reads: as itself. -/
def rawElem (v : Value) : Option (DataW Value × List MemPlace) := some (.held v, [])
/-- A map's block is this function of the keys. -/
def MapF (w : World) (P : Program) (t : TypeId) (b n : Nat) (f : Lit → Option Value) : Prop :=
  ∃ D : DataW Value, w.ownsMap P t rawElem b n D ∧ ∀ kl, WideAt.IsKeyLit kl → Maps.has D kl = (f kl).isSome ∧ ∀ z, D.atKey kl (.held z) = .held ((f kl).getD z)
/-- A function of keys, with one key's value put. -/
def putF (f : Lit → Option Value) (kl : Lit) (v : Value) : Lit → Option Value := fun x => if x.sameKey kl = true then some v else f x
theorem putF_same {f : Lit → Option Value} {kl : Lit} {v : Value} (h : WideAt.IsKeyLit kl) : putF f kl v kl = some v := if_pos (WideAt.sameKey_self h)
theorem putF_other {f : Lit → Option Value} {kl x : Lit} {v : Value} (h : x ≠ kl) : putF f kl v x = f x := if_neg (by rw [sameKey_ne h]; simp)
section
variable {P : Program} {w : World} {t : TypeId} {b n : Nat} {f : Lit → Option Value}
theorem MapF.made (w : World) (P : Program) (t : TypeId) : MapF (w.alloc (.map #[] 0)) P t w.heap.size 0 (fun _ => none) :=
  ⟨.map [], World.ownsMap_made _ _ _ _, fun _ _ => ⟨rfl, fun _ => rfl⟩⟩
theorem MapF.lt (h : MapF w P t b n f) : b < w.heap.size := by
  obtain ⟨D, h1, _⟩ := h
  exact h1.lt
theorem MapF.below {w' : World} (h : MapF w P t b n f) (hb : Below w.heap.size w w') : MapF w' P t b n f := by
  obtain ⟨D, h1, h2⟩ := h
  exact ⟨D, ownsMap_below h1 hb, h2⟩
theorem MapF.kept {w' : World} {row : Option Nat} (h : MapF w P t b n f) (hg : w.grownBy w' row) (hne : some b ≠ row) : MapF w' P t b n f := by
  obtain ⟨D, h1, h2⟩ := h
  exact ⟨D, h1.kept hg hne, h2⟩
theorem MapF.drewN (h : MapF w P t b n f) (m : Nat) : MapF (w.drewN m) P t b n f := h
theorem MapF.look {mt e : TypeId} (h : MapF w P t b n f) (K : Keyed P t) (ht : P.underlying mt = some (.map t e)) {z : Value} (hz : (zeroValue e).run P w = .ok z w) {key : Value} {kl : Lit} (hk : keyOf P t key = some kl) :
    (Instr.lookup mt (.map (some b)) key false).run P w = .ok ((f kl).getD z) w := by
  obtain ⟨D, h1, h2⟩ := h
  obtain ⟨v, ps, hr, hv⟩ := h1.lookup K ht hz (zd := .held z) (zp := []) rfl hk
  rw [(h2 kl (K.key hk)).2 z] at hv
  unfold rawElem at hv
  simp only [Option.some.injEq, Prod.mk.injEq, DataW.held.injEq] at hv
  rw [hr, hv.1]
theorem MapF.look_ok {mt e : TypeId} (h : MapF w P t b n f) (K : Keyed P t) (ht : P.underlying mt = some (.map t e)) {z : Value} (hz : (zeroValue e).run P w = .ok z w) {key : Value} {kl : Lit} (hk : keyOf P t key = some kl) :
    (Instr.lookup mt (.map (some b)) key true).run P w = .ok (.tuple #[(f kl).getD z, .bool (f kl).isSome]) w := by
  obtain ⟨D, h1, h2⟩ := h
  obtain ⟨v, ps, hr, hv⟩ := h1.look_ok K ht hz (zd := .held z) (zp := []) rfl hk
  rw [(h2 kl (K.key hk)).2 z] at hv
  unfold rawElem at hv
  simp only [Option.some.injEq, Prod.mk.injEq, DataW.held.injEq] at hv
  rw [hr, hv.1, (h2 kl (K.key hk)).1]
theorem MapF.put {mt e : TypeId} (h : MapF w P t b n f) (K : Keyed P t) (ht : P.underlying mt = some (.map t e)) (hn : n < maxLen) {key val : Value} {kl : Lit} (hk : keyOf P t key = some kl) :
    ∃ w', (Instr.mapUpdate mt (.map (some b)) key val).run P w = .ok () w' ∧ MapF w' P t b (n + 1) (putF f kl val) ∧ w.grownBy w' (some b) := by
  obtain ⟨D, h1, h2⟩ := h
  obtain ⟨w', hr, ho, hg⟩ := h1.update K ht hn hk (val := val) (d := .held val) (ps := []) rfl
  refine ⟨w', hr, ⟨_, ho, fun x hx => ?_⟩, hg⟩
  by_cases e : x = kl
  · subst e
    rw [putF_same hx]
    exact ⟨has_put_same h1.isMap hx _, fun z => atKey_put_same h1.isMap hx _ _⟩
  · rw [putF_other e, has_put_other e]
    exact ⟨(h2 x hx).1, fun z => by rw [atKey_put_other e]; exact (h2 x hx).2 z⟩
theorem wpList_put {ops : Array Oper} {rest : List Oper} {o : Oper} {a : Act} {Q : Exit → Act → World → Prop} (hg : o.guard = none) (m x v : Operand) (mt : TypeId) (hop : o.op = Op.mapUpdate mt m x v) {e : TypeId}
    (h : MapF w P t b n f) (K : Keyed P t) (ht : P.underlying mt = some (.map t e)) (hn : n < maxLen) (hm : a.eval m = .map (some b)) (key val : Value) (kl : Lit) (hx : a.eval x = key) (hv : a.eval v = val) (hk : keyOf P t key = some kl)
    (hK : ∀ w', MapF w' P t b (n + 1) (putF f kl val) → w.grownBy w' (some b) → wpList P ops Q rest (a.put o.dst undef) w') : wpList P ops Q (o :: rest) a w := by
  refine wpList_plain hg fun K' hK' => ?_
  obtain ⟨w', hrun, r1, r2⟩ := h.put K ht hn hk (val := val)
  unfold Oper.wp
  simp [execOp, hop, hm, hx, hv, hrun, Result.andThen]
  exact hK' _ _ (hK w' r1 r2)
theorem wpQuiet_look_ok {ops : Array Oper} {Q : Act → Prop} {a : Act} {o : Oper} {rest : List Oper} (hw : Region.wanted o (yielded ops a.tmps) = true) (m x : Operand) (mt : TypeId) (hop : o.op = Op.lookup mt m x true) {e : TypeId}
    (h : MapF w P t b n f) (K : Keyed P t) (ht : P.underlying mt = some (.map t e)) (z : Value) (hz : ∀ W, (zeroValue e).run P W = .ok z W) (hm : a.eval m = .map (some b)) (key : Value) (kl : Lit) (hx : a.eval x = key) (hk : keyOf P t key = some kl)
    (hK : wpQuiet P ops (fun w' => ∃ n, w' = w.drewN n) Q rest (a.put o.dst (.tuple #[(f kl).getD z, .bool (f kl).isSome]))) : wpQuiet P ops (fun w' => ∃ n, w' = w.drewN n) Q (o :: rest) a := by
  refine wpQuiet_value hw _ (fun m => ?_) hK
  unfold execOp
  simp only [hop, hm, hx, Sem.run_bind, (h.drewN m).look_ok K ht (hz _) hk, Result.andThen_ok, Sem.run_pure]
theorem wpQuiet_look {ops : Array Oper} {Q : Act → Prop} {a : Act} {o : Oper} {rest : List Oper} (hw : Region.wanted o (yielded ops a.tmps) = true) (m x : Operand) (mt : TypeId) (hop : o.op = Op.lookup mt m x false) {e : TypeId}
    (h : MapF w P t b n f) (K : Keyed P t) (ht : P.underlying mt = some (.map t e)) (z : Value) (hz : ∀ W, (zeroValue e).run P W = .ok z W) (hm : a.eval m = .map (some b)) (key : Value) (kl : Lit) (hx : a.eval x = key) (hk : keyOf P t key = some kl)
    (hK : wpQuiet P ops (fun w' => ∃ n, w' = w.drewN n) Q rest (a.put o.dst ((f kl).getD z))) : wpQuiet P ops (fun w' => ∃ n, w' = w.drewN n) Q (o :: rest) a := by
  refine wpQuiet_value hw _ (fun m => ?_) hK
  unfold execOp
  simp only [hop, hm, hx, Sem.run_bind, (h.drewN m).look K ht (hz _) hk, Result.andThen_ok, Sem.run_pure]
end
theorem zeroInt32 (w : World) : (zeroValue 3).run Try.prog w = .ok (.int .i64 0) w := by kernel_rfl
end Go.Proofs.Ytjphlhehhigpjaa
