/- Layer 32: maps of any element type, as functions of their keys; the look-up of a mark. -/
import Derived.Test.YtpkkeeblgbdfdaaAg3
namespace Go.Proofs.Ytpkkeeblgbdfdaa
open Go.RowKit Go.Maps Go.WideMaps

/-- How an element of any type reads: as itself. -/
def rawElem (v : Value) : Option (DataW Value × List MemPlace) := some (.held v, [])
/-- A map's block is this function of the keys. -/
def MapF (w : World) (P : Program) (t : TypeId) (b n : Nat) (f : Lit → Option Value) : Prop :=
  ∃ D : DataW Value, w.ownsMap P t rawElem b n D ∧ ∀ kl, WideAt.IsKeyLit kl → Maps.has D kl = (f kl).isSome ∧ ∀ z, D.atKey kl (.held z) = .held ((f kl).getD z)
/-- A function of keys, with one key's value put. -/
def putF (f : Lit → Option Value) (kl : Lit) (v : Value) : Lit → Option Value := fun x => if x.sameKey kl = true then some v else f x
theorem putF_same {f : Lit → Option Value} {kl : Lit} {v : Value} (h : WideAt.IsKeyLit kl) : putF f kl v kl = some v := if_pos (WideAt.sameKey_self h)
theorem putF_other {f : Lit → Option Value} {kl x : Lit} {v : Value} (h : x ≠ kl) : putF f kl v x = f x := if_neg (by rw [sameKey_ne h]; simp)
section
variable {P : Program} {w : World} {t : TypeId} {b n : Nat} {f : Lit → Option Value}
theorem MapF.made (w : World) (P : Program) (t : TypeId) : MapF (w.alloc (.map #[] 0)) P t w.heap.size 0 (fun _ => none) :=
  ⟨.map [], World.ownsMap_made _ _ _ _, fun _ _ => ⟨rfl, fun _ => rfl⟩⟩
theorem MapF.lt (h : MapF w P t b n f) : b < w.heap.size := by
  obtain ⟨D, h1, _⟩ := h
  exact h1.lt
theorem MapF.below {w' : World} (h : MapF w P t b n f) (hb : Below w.heap.size w w') : MapF w' P t b n f := by
  obtain ⟨D, h1, h2⟩ := h
  exact ⟨D, ownsMap_below h1 hb, h2⟩
theorem MapF.kept {w' : World} {row : Option Nat} (h : MapF w P t b n f) (hg : w.grownBy w' row) (hne : some b ≠ row) : MapF w' P t b n f := by
  obtain ⟨D, h1, h2⟩ := h
  exact ⟨D, h1.kept hg hne, h2⟩
theorem MapF.drewN (h : MapF w P t b n f) (m : Nat) : MapF (w.drewN m) P t b n f := h
theorem MapF.look {mt e : TypeId} (h : MapF w P t b n f) (K : Keyed P t) (ht : P.underlying mt = some (.map t e)) {z : Value} (hz : (zeroValue e).run P w = .ok z w) {key : Value} {kl : Lit} (hk : keyOf P t key = some kl) :
    (Instr.lookup mt (.map (some b)) key false).run P w = .ok ((f kl).getD z) w := by
  obtain ⟨D, h1, h2⟩ := h
  obtain ⟨v, ps, hr, hv⟩ := h1.lookup K ht hz (zd := .held z) (zp := []) rfl hk
  rw [(h2 kl (K.key hk)).2 z] at hv
  unfold rawElem at hv
  simp only [Option.some.injEq, Prod.mk.injEq, DataW.held.injEq] at hv
  rw [hr, hv.1]
theorem MapF.look_ok {mt e : TypeId} (h : MapF w P t b n f) (K : Keyed P t) (ht : P.underlying mt = some (.map t e)) {z : Value} (hz : (zeroValue e).run P w = .ok z w) {key : Value} {kl : Lit} (hk : keyOf P t key = some kl) :
    (Instr.lookup mt (.map (some b)) key true).run P w = .ok (.tuple #[(f kl).getD z, .bool (f kl).isSome]) w := by
  obtain ⟨D, h1, h2⟩ := h
  obtain ⟨v, ps, hr, hv⟩ := h1.look_ok K ht hz (zd := .held z) (zp := []) rfl hk
  rw [(h2 kl (K.key hk)).2 z] at hv
  unfold rawElem at hv
  simp only [Option.some.injEq, Prod.mk.injEq, DataW.held.injEq] at hv
  rw [hr, hv.1, (h2 kl (K.key hk)).1]
theorem MapF.put {mt e : TypeId} (h : MapF w P t b n f) (K : Keyed P t) (ht : P.underlying mt = some (.map t e)) (hn : n < maxLen) {key val : Value} {kl : Lit} (hk : keyOf P t key = some kl) :
    ∃ w', (Instr.mapUpdate mt (.map (some b)) key val).run P w = .ok () w' ∧ MapF w' P t b (n + 1) (putF f kl val) ∧ w.grownBy w' (some b) := by
  obtain ⟨D, h1, h2⟩ := h
  obtain ⟨w', hr, ho, hg⟩ := h1.update K ht hn hk (val := val) (d := .held val) (ps := []) rfl
  refine ⟨w', hr, ⟨_, ho, fun x hx => ?_⟩, hg⟩
  by_cases e : x = kl
  · subst e
    rw [putF_same hx]
    exact ⟨has_put_same h1.isMap hx _, fun z => atKey_put_same h1.isMap hx _ _⟩
  · rw [putF_other e, has_put_other e]
    exact ⟨(h2 x hx).1, fun z => by rw [atKey_put_other e]; exact (h2 x hx).2 z⟩
theorem wpList_put {ops : Array Oper} {rest : List Oper} {o : Oper} {a : Act} {Q : Exit → Act → World → Prop} (hg : o.guard = none) (m x v : Operand) (mt : TypeId) (hop : o.op = Op.mapUpdate mt m x v) {e : TypeId}
    (h : MapF w P t b n f) (K : Keyed P t) (ht : P.underlying mt = some (.map t e)) (hn : n < maxLen) (hm : a.eval m = .map (some b)) (key val : Value) (kl : Lit) (hx : a.eval x = key) (hv : a.eval v = val) (hk : keyOf P t key = some kl)
    (hK : ∀ w', MapF w' P t b (n + 1) (putF f kl val) → w.grownBy w' (some b) → wpList P ops Q rest (a.put o.dst undef) w') : wpList P ops Q (o :: rest) a w := by
  refine wpList_plain hg fun K' hK' => ?_
  obtain ⟨w', hrun, r1, r2⟩ := h.put K ht hn hk (val := val)
  unfold Oper.wp
  simp [execOp, hop, hm, hx, hv, hrun, Result.andThen]
  exact hK' _ _ (hK w' r1 r2)
theorem wpQuiet_look_ok {ops : Array Oper} {Q : Act → Prop} {a : Act} {o : Oper} {rest : List Oper} (hw : Region.wanted o (yielded ops a.tmps) = true) (m x : Operand) (mt : TypeId) (hop : o.op = Op.lookup mt m x true) {e : TypeId}
    (h : MapF w P t b n f) (K : Keyed P t) (ht : P.underlying mt = some (.map t e)) (z : Value) (hz : ∀ W, (zeroValue e).run P W = .ok z W) (hm : a.eval m = .map (some b)) (key : Value) (kl : Lit) (hx : a.eval x = key) (hk : keyOf P t key = some kl)
    (hK : wpQuiet P ops (fun w' => ∃ n, w' = w.drewN n) Q rest (a.put o.dst (.tuple #[(f kl).getD z, .bool (f kl).isSome]))) : wpQuiet P ops (fun w' => ∃ n, w' = w.drewN n) Q (o :: rest) a := by
  refine wpQuiet_value hw _ (fun m => ?_) hK
  unfold execOp
  simp only [hop, hm, hx, Sem.run_bind, (h.drewN m).look_ok K ht (hz _) hk, Result.andThen_ok, Sem.run_pure]
theorem wpQuiet_look {ops : Array Oper} {Q : Act → Prop} {a : Act} {o : Oper} {rest : List Oper} (hw : Region.wanted o (yielded ops a.tmps) = true) (m x : Operand) (mt : TypeId) (hop : o.op = Op.lookup mt m x false) {e : TypeId}
    (h : MapF w P t b n f) (K : Keyed P t) (ht : P.underlying mt = some (.map t e)) (z : Value) (hz : ∀ W, (zeroValue e).run P W = .ok z W) (hm : a.eval m = .map (some b)) (key : Value) (kl : Lit) (hx : a.eval x = key) (hk : keyOf P t key = some kl)
    (hK : wpQuiet P ops (fun w' => ∃ n, w' = w.drewN n) Q rest (a.put o.dst ((f kl).getD z))) : wpQuiet P ops (fun w' => ∃ n, w' = w.drewN n) Q (o :: rest) a := by
  refine wpQuiet_value hw _ (fun m => ?_) hK
  unfold execOp
  simp only [hop, hm, hx, Sem.run_bind, (h.drewN m).look K ht (hz _) hk, Result.andThen_ok, Sem.run_pure]
end
theorem MarkV.row_inj {m m' : MarkV} (h : m.row = m'.row) : m = m' := by
  obtain ⟨a1, a2, a3, a4, a5, a6, ⟨b0, b1, b2, b3, b4, b5, b6, b7, b8, b9, b10, b11, b12, b13, b14, b15, b16, b17, b18, b19, b20, b21, b22, b23, b24, b25⟩⟩ := m
  obtain ⟨c1, c2, c3, c4, c5, c6, ⟨d0, d1, d2, d3, d4, d5, d6, d7, d8, d9, d10, d11, d12, d13, d14, d15, d16, d17, d18, d19, d20, d21, d22, d23, d24, d25⟩⟩ := m'
  simp only [MarkV.row, DoV.row, List.cons.injEq, Value.int.injEq, Value.string.injEq, true_and, and_true, Int.natCast_inj] at h
  simp only [MarkV.mk.injEq, DoV.mk.injEq]
  exact h
theorem mark_key_inj {m m' : MarkV} {kl : Lit} (h : keyOf Try.prog 63 (.agg m.row.toArray) = some kl) (h' : keyOf Try.prog 63 (.agg m'.row.toArray) = some kl) : m = m' := by
  have e := lawMark.inj h h'
  simp only [Value.agg.injEq] at e
  exact MarkV.row_inj (by simpa using e)
theorem zeroInt32 (w : World) : (zeroValue 3).run Try.prog w = .ok (.int .i64 0) w := by kernel_rfl
set_option maxHeartbeats 4000000 in
set_option maxRecDepth 100000 in
theorem lookUp_any {w : World} {p b n : Nat} {f : Lit → Option Value} {c0 c1 c2 c3 c5 : Value} (h : Holds w p 69 #[c0, c1, c2, c3, .map (some b), c5]) (hf : MapF w Try.prog 63 b n f) (m : MarkV) {kl : Lit} (hk : keyOf Try.prog 63 (.agg m.row.toArray) = some kl) :
    Calls Try.prog 19 #[.pointer (some ⟨p, 0, none⟩), .agg m.row.toArray] w fun e w' => e = .returned (.tuple #[(f kl).getD (.int .i64 0), .bool (f kl).isSome]) ∧ Below w.heap.size w w' := by
  obtain ⟨W, hW⟩ : ∃ W, Hid (W = w.alloc (.cells m.row.toArray 63)) := ⟨_, Lib.hid rfl⟩
  have BW : Hid (Below w.heap.size w W) := by
    show Below _ _ _
    rw [hW.out]
    exact (Below.refl _ w).alloc (Nat.le_refl _) _
  have c4 : W.cell? ⟨p, 4, none⟩ = some (.map (some b)) := (cell_heap ((BW.out.block p h.lt).trans h) 4).trans rfl
  have HLd : Hid (∀ j u, m.row.toArray[j]? = some u → W.cell? ((⟨w.heap.size, 0, none⟩ : Addr).add j) = some u) := fun j u hj => by
    rw [Addr.add_lit, Nat.zero_add, hW.out]
    exact (cell_heap (heap_alloc_new w _) j).trans hj
  have HMs : Hid (m.row.toArray.size = 32 ∧ m.row.toArray.all (·.oneCell') = true) := ⟨rfl, m.one⟩
  have HF := Lib.hid (hf.below BW.out)
  have HK := Lib.hid hk
  have HZ := Lib.hid zeroInt32
  clear h hf hk
  generalize m.row.toArray = M at *
  go_enter Try.func19, Try.ntmps19
  go_upto_region 1 with fail
  rw [← hW.out]
  clear hW
  refine wp_region_quiet_gen (by kernel_rfl) (by kernel_rfl) ?_
  intro O hO
  refine wpQuiet_plain rfl (fun K hK => ?_)
  go_simp
  refine hK _ ?_
  clear hK K
  refine wpQuiet_plain rfl (fun K hK => ?_)
  go_simp
  refine hK _ ?_
  clear hK K
  refine wpQuiet_plain rfl (fun K hK => ?_)
  go_simp
  refine hK _ ?_
  clear hK K
  refine wpQuiet_plain rfl (fun K hK => ?_)
  go_simp
  refine hK _ ?_
  clear hK K
  refine wpQuiet_load (by rw [hO]; rfl) 63 _ rfl ⟨w.heap.size, 0, none⟩ rfl M _ HLd.out Try.underlying63 rfl (by rw [HMs.out.1]; exact sizeMark) ?_
  refine wpQuiet_look_ok (by rw [hO]; rfl) _ _ 67 rfl HF.out lawMark Try.underlying67 (.int .i64 0) HZ.out rfl (.agg M) kl rfl HK.out ?_
  refine wpQuiet_plain rfl (fun K hK => ?_)
  go_simp
  refine hK _ ?_
  clear hK K
  refine wpQuiet_plain rfl (fun K hK => ?_)
  go_simp
  refine hK _ ?_
  clear hK K
  refine wpQuiet_plain rfl (fun K hK => ?_)
  go_simp
  refine hK _ ?_
  clear hK K
  refine wpQuiet_plain rfl (fun K hK => ?_)
  go_simp
  refine hK _ ?_
  clear hK K
  refine wpQuiet_plain rfl (fun K hK => ?_)
  go_simp
  refine hK _ ?_
  clear hK K
  refine wpQuiet_nil ?_
  intro _ hw'
  obtain ⟨nq, hw''⟩ := hw'
  subst hw''
  clear hO O
  generalize hr0 : (f kl).getD (.int .i64 0) = r0 at *
  generalize hr1 : (f kl).isSome = r1 at *
  have HR0 := Lib.hid hr0
  have HR1 := Lib.hid hr1
  clear hr0 hr1
  go_wp2_with fail
  go_ret2
  exact ⟨by rw [HR0.out, HR1.out]; rfl, BW.out.os, BW.out.tape, BW.out.output, BW.out.size, BW.out.block⟩
end Go.Proofs.Ytpkkeeblgbdfdaa
