/- Part 6 of what the statement wants. -/
import Derived.Test.YtpkkeeblgbdfdaaDoorPk05
namespace Go.Proofs.YtpkkeeblgbdfdaaDoor
open Go.RowKit Go.Maps Go.WideMaps

/-- How an element of any type reads: as itself. -/
def rawElem (v : Value) : Option (DataW Value × List MemPlace) := some (.held v, [])
/-- A map's block is this function of the keys. -/
def MapF (w : World) (P : Program) (t : TypeId) (b n : Nat) (f : Lit → Option Value) : Prop :=
  ∃ D : DataW Value, w.ownsMap P t rawElem b n D ∧ ∀ kl, WideAt.IsKeyLit kl → Maps.has D kl = (f kl).isSome ∧ ∀ z, D.atKey kl (.held z) = .held ((f kl).getD z)
/-- A function of keys, with one key's value put. -/
def putF (f : Lit → Option Value) (kl : Lit) (v : Value) : Lit → Option Value := fun x => if x.sameKey kl = true then some v else f x
theorem putF_same {f : Lit → Option Value} {kl : Lit} {v : Value} (h : WideAt.IsKeyLit kl) : putF f kl v kl = some v := if_pos (WideAt.sameKey_self h)
theorem putF_other {f : Lit → Option Value} {kl x : Lit} {v : Value} (h : x ≠ kl) : putF f kl v x = f x := if_neg (by rw [sameKey_ne h]; simp)
section
variable {P : Program} {w : World} {t : TypeId} {b n : Nat} {f : Lit → Option Value}
theorem MapF.made (w : World) (P : Program) (t : TypeId) : MapF (w.alloc (.map #[] 0)) P t w.heap.size 0 (fun _ => none) :=
  ⟨.map [], World.ownsMap_made _ _ _ _, fun _ _ => ⟨rfl, fun _ => rfl⟩⟩
theorem MapF.lt (h : MapF w P t b n f) : b < w.heap.size := by
  obtain ⟨D, h1, _⟩ := h
  exact h1.lt
theorem MapF.below {w' : World} (h : MapF w P t b n f) (hb : Below w.heap.size w w') : MapF w' P t b n f := by
  obtain ⟨D, h1, h2⟩ := h
  exact ⟨D, ownsMap_below h1 hb, h2⟩
theorem MapF.kept {w' : World} {row : Option Nat} (h : MapF w P t b n f) (hg : w.grownBy w' row) (hne : some b ≠ row) : MapF w' P t b n f := by
  obtain ⟨D, h1, h2⟩ := h
  exact ⟨D, h1.kept hg hne, h2⟩
theorem MapF.drewN (h : MapF w P t b n f) (m : Nat) : MapF (w.drewN m) P t b n f := h
theorem MapF.look {mt e : TypeId} (h : MapF w P t b n f) (K : Keyed P t) (ht : P.underlying mt = some (.map t e)) {z : Value} (hz : (zeroValue e).run P w = .ok z w) {key : Value} {kl : Lit} (hk : keyOf P t key = some kl) :
    (Instr.lookup mt (.map (some b)) key false).run P w = .ok ((f kl).getD z) w := by
  obtain ⟨D, h1, h2⟩ := h
  obtain ⟨v, ps, hr, hv⟩ := h1.lookup K ht hz (zd := .held z) (zp := []) rfl hk
  rw [(h2 kl (K.key hk)).2 z] at hv
  unfold rawElem at hv
  simp only [Option.some.injEq, Prod.mk.injEq, DataW.held.injEq] at hv
  rw [hr, hv.1]
theorem MapF.look_ok {mt e : TypeId} (h : MapF w P t b n f) (K : Keyed P t) (ht : P.underlying mt = some (.map t e)) {z : Value} (hz : (zeroValue e).run P w = .ok z w) {key : Value} {kl : Lit} (hk : keyOf P t key = some kl) :
    (Instr.lookup mt (.map (some b)) key true).run P w = .ok (.tuple #[(f kl).getD z, .bool (f kl).isSome]) w := by
  obtain ⟨D, h1, h2⟩ := h
  obtain ⟨v, ps, hr, hv⟩ := h1.look_ok K ht hz (zd := .held z) (zp := []) rfl hk
  rw [(h2 kl (K.key hk)).2 z] at hv
  unfold rawElem at hv
  simp only [Option.some.injEq, Prod.mk.injEq, DataW.held.injEq] at hv
  rw [hr, hv.1, (h2 kl (K.key hk)).1]
theorem MapF.put {mt e : TypeId} (h : MapF w P t b n f) (K : Keyed P t) (ht : P.underlying mt = some (.map t e)) (hn : n < maxLen) {key val : Value} {kl : Lit} (hk : keyOf P t key = some kl) :
    ∃ w', (Instr.mapUpdate mt (.map (some b)) key val).run P w = .ok () w' ∧ MapF w' P t b (n + 1) (putF f kl val) ∧ w.grownBy w' (some b) := by
  obtain ⟨D, h1, h2⟩ := h
  obtain ⟨w', hr, ho, hg⟩ := h1.update K ht hn hk (val := val) (d := .held val) (ps := []) rfl
  refine ⟨w', hr, ⟨_, ho, fun x hx => ?_⟩, hg⟩
  by_cases e : x = kl
  · subst e
    rw [putF_same hx]
    exact ⟨has_put_same h1.isMap hx _, fun z => atKey_put_same h1.isMap hx _ _⟩
  · rw [putF_other e, has_put_other e]
    exact ⟨(h2 x hx).1, fun z => by rw [atKey_put_other e]; exact (h2 x hx).2 z⟩
theorem wpQuiet_look_ok {ops : Array Oper} {Q : Act → Prop} {a : Act} {o : Oper} {rest : List Oper} (hw : Region.wanted o (yielded ops a.tmps) = true) (m x : Operand) (mt : TypeId) (hop : o.op = Op.lookup mt m x true) {e : TypeId}
    (h : MapF w P t b n f) (K : Keyed P t) (ht : P.underlying mt = some (.map t e)) (z : Value) (hz : ∀ W, (zeroValue e).run P W = .ok z W) (hm : a.eval m = .map (some b)) (key : Value) (kl : Lit) (hx : a.eval x = key) (hk : keyOf P t key = some kl)
    (hK : wpQuiet P ops (fun w' => ∃ n, w' = w.drewN n) Q rest (a.put o.dst (.tuple #[(f kl).getD z, .bool (f kl).isSome]))) : wpQuiet P ops (fun w' => ∃ n, w' = w.drewN n) Q (o :: rest) a := by
  refine wpQuiet_value hw _ (fun m => ?_) hK
  unfold execOp
  simp only [hop, hm, hx, Sem.run_bind, (h.drewN m).look_ok K ht (hz _) hk, Result.andThen_ok, Sem.run_pure]
theorem wpQuiet_look {ops : Array Oper} {Q : Act → Prop} {a : Act} {o : Oper} {rest : List Oper} (hw : Region.wanted o (yielded ops a.tmps) = true) (m x : Operand) (mt : TypeId) (hop : o.op = Op.lookup mt m x false) {e : TypeId}
    (h : MapF w P t b n f) (K : Keyed P t) (ht : P.underlying mt = some (.map t e)) (z : Value) (hz : ∀ W, (zeroValue e).run P W = .ok z W) (hm : a.eval m = .map (some b)) (key : Value) (kl : Lit) (hx : a.eval x = key) (hk : keyOf P t key = some kl)
    (hK : wpQuiet P ops (fun w' => ∃ n, w' = w.drewN n) Q rest (a.put o.dst ((f kl).getD z))) : wpQuiet P ops (fun w' => ∃ n, w' = w.drewN n) Q (o :: rest) a := by
  refine wpQuiet_value hw _ (fun m => ?_) hK
  unfold execOp
  simp only [hop, hm, hx, Sem.run_bind, (h.drewN m).look K ht (hz _) hk, Result.andThen_ok, Sem.run_pure]
end
theorem MarkV.row_inj {m m' : MarkV} (h : m.row = m'.row) : m = m' := by
  obtain ⟨a1, a2, a3, a4, a5, a6, ⟨b0, b1, b2, b3, b4, b5, b6, b7, b8, b9, b10, b11, b12, b13, b14, b15, b16, b17, b18, b19, b20, b21, b22, b23, b24, b25⟩⟩ := m
  obtain ⟨c1, c2, c3, c4, c5, c6, ⟨d0, d1, d2, d3, d4, d5, d6, d7, d8, d9, d10, d11, d12, d13, d14, d15, d16, d17, d18, d19, d20, d21, d22, d23, d24, d25⟩⟩ := m'
  simp only [MarkV.row, DoV.row, List.cons.injEq, Value.int.injEq, Value.string.injEq, true_and, and_true, Int.natCast_inj] at h
  simp only [MarkV.mk.injEq, DoV.mk.injEq]
  exact h
theorem mark_key_inj {m m' : MarkV} {kl : Lit} (h : keyOf Tryd.prog 82 (.agg m.row.toArray) = some kl) (h' : keyOf Tryd.prog 82 (.agg m'.row.toArray) = some kl) : m = m' := by
  have e := lawMark.inj h h'
  simp only [Value.agg.injEq] at e
  exact MarkV.row_inj (by simpa using e)
theorem zeroInt32 (w : World) : (zeroValue 3).run Tryd.prog w = .ok (.int .i64 0) w := by kernel_rfl
set_option maxHeartbeats 4000000 in
set_option maxRecDepth 100000 in
theorem lookUp_any {w : World} {p b n : Nat} {f : Lit → Option Value} {c0 c1 c2 c3 c5 : Value} (h : Holds w p 73 #[c0, c1, c2, c3, .map (some b), c5]) (hf : MapF w Tryd.prog 82 b n f) (m : MarkV) {kl : Lit} (hk : keyOf Tryd.prog 82 (.agg m.row.toArray) = some kl) :
    Calls Tryd.prog 48 #[.pointer (some ⟨p, 0, none⟩), .agg m.row.toArray] w fun e w' => e = .returned (.tuple #[(f kl).getD (.int .i64 0), .bool (f kl).isSome]) ∧ Below w.heap.size w w' := by
  obtain ⟨W, hW⟩ : ∃ W, Hid (W = w.alloc (.cells m.row.toArray 82)) := ⟨_, Lib.hid rfl⟩
  have BW : Hid (Below w.heap.size w W) := by
    show Below _ _ _
    rw [hW.out]
    exact (Below.refl _ w).alloc (Nat.le_refl _) _
  have c4 : W.cell? ⟨p, 4, none⟩ = some (.map (some b)) := (cell_heap ((BW.out.block p h.lt).trans h) 4).trans rfl
  have HLd : Hid (∀ j u, m.row.toArray[j]? = some u → W.cell? ((⟨w.heap.size, 0, none⟩ : Addr).add j) = some u) := fun j u hj => by
    rw [Addr.add_lit, Nat.zero_add, hW.out]
    exact (cell_heap (heap_alloc_new w _) j).trans hj
  have HMs : Hid (m.row.toArray.size = 32 ∧ m.row.toArray.all (·.oneCell') = true) := ⟨rfl, m.one⟩
  have HF := Lib.hid (hf.below BW.out)
  have HK := Lib.hid hk
  have HZ := Lib.hid zeroInt32
  clear h hf hk
  generalize m.row.toArray = M at *
  go_enter Tryd.func48, Tryd.ntmps48
  go_upto_region 1 with fail
  rw [← hW.out]
  clear hW
  refine wp_region_quiet_gen (by kernel_rfl) (by kernel_rfl) ?_
  intro O hO
  refine wpQuiet_plain rfl (fun K hK => ?_)
  go_simp
  refine hK _ ?_
  clear hK K
  refine wpQuiet_plain rfl (fun K hK => ?_)
  go_simp
  refine hK _ ?_
  clear hK K
  refine wpQuiet_plain rfl (fun K hK => ?_)
  go_simp
  refine hK _ ?_
  clear hK K
  refine wpQuiet_plain rfl (fun K hK => ?_)
  go_simp
  refine hK _ ?_
  clear hK K
  refine wpQuiet_load (by rw [hO]; rfl) 82 _ rfl ⟨w.heap.size, 0, none⟩ rfl M _ HLd.out Tryd.underlying82 rfl (by rw [HMs.out.1]; exact sizeMark) ?_
  refine wpQuiet_look_ok (by rw [hO]; rfl) _ _ 71 rfl HF.out lawMark Tryd.underlying71 (.int .i64 0) HZ.out rfl (.agg M) kl rfl HK.out ?_
  refine wpQuiet_plain rfl (fun K hK => ?_)
  go_simp
  refine hK _ ?_
  clear hK K
  refine wpQuiet_plain rfl (fun K hK => ?_)
  go_simp
  refine hK _ ?_
  clear hK K
  refine wpQuiet_plain rfl (fun K hK => ?_)
  go_simp
  refine hK _ ?_
  clear hK K
  refine wpQuiet_plain rfl (fun K hK => ?_)
  go_simp
  refine hK _ ?_
  clear hK K
  refine wpQuiet_plain rfl (fun K hK => ?_)
  go_simp
  refine hK _ ?_
  clear hK K
  refine wpQuiet_nil ?_
  intro _ hw'
  obtain ⟨nq, hw''⟩ := hw'
  subst hw''
  clear hO O
  generalize hr0 : (f kl).getD (.int .i64 0) = r0 at *
  generalize hr1 : (f kl).isSome = r1 at *
  have HR0 := Lib.hid hr0
  have HR1 := Lib.hid hr1
  clear hr0 hr1
  go_wp2_with fail
  go_ret2
  exact ⟨by rw [HR0.out, HR1.out]; rfl, BW.out.os, BW.out.tape, BW.out.output, BW.out.size, BW.out.block⟩
end Go.Proofs.YtpkkeeblgbdfdaaDoor

namespace Go.Proofs.YtpkkeeblgbdfdaaDoor
open Go.RowKit Go.Maps Go.WideMaps

def intO (o : Option Nat) : Option Value := o.map fun i => .int .i64 (i : Int)
theorem intO_get (o : Option Nat) : (intO o).getD (.int .i64 0) = .int .i64 ((o.getD 0 : Nat) : Int) ∧ (intO o).isSome = o.isSome := by cases o <;> exact ⟨rfl, rfl⟩
/-- A function of keys that speaks of marks. -/
def OfMarks (P : Program) (f : Lit → Option Value) (g : MarkV → Option Nat) : Prop := ∀ (m : MarkV) (kl : Lit), keyOf P 82 (.agg m.row.toArray) = some kl → f kl = intO (g m)
/-- Where an event's source is. -/
def sourceO (g : MarkV → Option Nat) (x : EvV) : Option Nat := if x.ki = 2 then g (markE 1 x) else if x.ki = 4 then g (markE 3 x) else if x.ki = 5 then g (markE 4 x) else none
set_option maxHeartbeats 4000000 in
set_option maxRecDepth 100000 in
theorem source_any {w : World} {p b n : Nat} {f : Lit → Option Value} {g : MarkV → Option Nat} {c0 c1 c2 c3 c5 : Value} (h : Holds w p 73 #[c0, c1, c2, c3, .map (some b), c5]) (hf : MapF w Tryd.prog 82 b n f) (hg : OfMarks Tryd.prog f g) (x : EvV) (hx : ∀ u ∈ x.row.toList, CellOk u) :
    Calls Tryd.prog 38 #[.pointer (some ⟨p, 0, none⟩), .agg x.row] w fun e w' => e = .returned (.tuple #[.int .i64 (((sourceO g x).getD 0 : Nat) : Int), .bool (sourceO g x).isSome]) ∧ Below w.heap.size w w' := by
  obtain ⟨W, hW⟩ : ∃ W, Hid (W = w.alloc (.cells x.row 45)) := ⟨_, Lib.hid rfl⟩
  have BW : Hid (Below w.heap.size w W) := by
    show Below _ _ _
    rw [hW.out]
    exact (Below.refl _ w).alloc (Nat.le_refl _) _
  have K1 : Hid (Holds W w.heap.size 45 x.row) := by
    show Holds _ _ _ _
    rw [hW.out]
    exact Holds.new w _ _
  have c0 : W.cell? ⟨w.heap.size, 0, none⟩ = some (.int .i64 x.ki) := (cell_heap K1.out 0).trans (EvV.row_ki x)
  have HMk : Hid (∀ W' kind, Calls Tryd.prog 41 #[.int .i64 kind, .agg x.row] W' fun e w' => e = .returned (.agg (markE kind x).row.toArray) ∧ Below W'.heap.size W' w') := fun W' kind => marked_any x kind W'
  have HLk : Hid (∀ W' kind, (Lit.int .i64 kind).wf = true → Below w.heap.size w W' → Calls Tryd.prog 48 #[.pointer (some ⟨p, 0, none⟩), .agg (markE kind x).row.toArray] W' fun e w' => e = .returned (.tuple #[.int .i64 (((g (markE kind x)).getD 0 : Nat) : Int), .bool (g (markE kind x)).isSome]) ∧ Below W'.heap.size W' w') := fun W' kind hk hb => by
    obtain ⟨kl, hkl⟩ := keyOf_mark (markE kind x) (markE_ok hk hx)
    rw [← (intO_get (g (markE kind x))).1, ← (intO_get (g (markE kind x))).2, ← hg _ _ hkl]
    exact lookUp_any ((hb.block p h.lt).trans h) (hf.below hb) (markE kind x) hkl
  have HS : Hid (x.row.size = 34) := rfl
  have HSx : Hid (∀ k m, x.ki = k → (k = 2 ∧ m = 1 ∨ k = 4 ∧ m = 3 ∨ k = 5 ∧ m = 4) → sourceO g x = g (markE m x)) := fun k m e hh => by
    unfold sourceO
    rw [e]
    rcases hh with ⟨rfl, rfl⟩ | ⟨rfl, rfl⟩ | ⟨rfl, rfl⟩ <;> rfl
  have HSn : Hid (x.ki ≠ 2 → x.ki ≠ 4 → x.ki ≠ 5 → sourceO g x = none) := fun h2 h4 h5 => by
    unfold sourceO
    rw [if_neg h2, if_neg h4, if_neg h5]
  clear h hf hg hx
  generalize x.row = R at *
  by_cases h2 : x.ki = 2
  · have HSo := Lib.hid (HSx.out 2 1 h2 (.inl ⟨rfl, rfl⟩))
    rw [h2] at c0
    clear HSx HSn h2
    go_enter Tryd.func38, Tryd.ntmps38
    go_upto_region 1 with fail
    rw [← hW.out]
    clear hW
    go_wp2_with (first
      | (refine wpList_load_row rfl 45 _ rfl w.heap.size rfl 45 R (0, 0) _ (by exact K1.out) Tryd.underlying45 rfl (by rw [HS.out]; exact sizeEvent) ?_)
      | (go_at_call 41; (with_reducible refine (HMk.out _ 1).mono ?_); rintro e w1 ⟨rfl, b1⟩; have B1 := Lib.hid (BW.out.trans (b1.mono BW.out.size)); clear b1)
      | (go_at_call 48; (with_reducible refine (HLk.out _ 1 rfl B1.out).mono ?_); rintro e w2 ⟨rfl, b2⟩; have B2 := Lib.hid (B1.out.trans (b2.mono B1.out.size)); clear b2))
    go_ret2
    exact ⟨by rw [HSo.out]; rfl, B2.out⟩
  have q2 : (x.ki == 2) = false := by rw [beq_eq_false_iff_ne]; exact h2
  by_cases h4 : x.ki = 4
  · have HSo := Lib.hid (HSx.out 4 3 h4 (.inr (.inl ⟨rfl, rfl⟩)))
    rw [h4] at c0
    clear HSx HSn h2 h4 q2
    go_enter Tryd.func38, Tryd.ntmps38
    go_upto_region 1 with fail
    rw [← hW.out]
    clear hW
    go_wp2_with (first
      | (refine wpList_load_row rfl 45 _ rfl w.heap.size rfl 45 R (0, 0) _ (by exact K1.out) Tryd.underlying45 rfl (by rw [HS.out]; exact sizeEvent) ?_)
      | (go_at_call 41; (with_reducible refine (HMk.out _ 3).mono ?_); rintro e w1 ⟨rfl, b1⟩; have B1 := Lib.hid (BW.out.trans (b1.mono BW.out.size)); clear b1)
      | (go_at_call 48; (with_reducible refine (HLk.out _ 3 rfl B1.out).mono ?_); rintro e w2 ⟨rfl, b2⟩; have B2 := Lib.hid (B1.out.trans (b2.mono B1.out.size)); clear b2))
    go_ret2
    exact ⟨by rw [HSo.out]; rfl, B2.out⟩
  have q4 : (x.ki == 4) = false := by rw [beq_eq_false_iff_ne]; exact h4
  by_cases h5 : x.ki = 5
  · have HSo := Lib.hid (HSx.out 5 4 h5 (.inr (.inr ⟨rfl, rfl⟩)))
    rw [h5] at c0
    clear HSx HSn h2 h4 h5 q2 q4
    go_enter Tryd.func38, Tryd.ntmps38
    go_upto_region 1 with fail
    rw [← hW.out]
    clear hW
    go_wp2_with (first
      | (refine wpList_load_row rfl 45 _ rfl w.heap.size rfl 45 R (0, 0) _ (by exact K1.out) Tryd.underlying45 rfl (by rw [HS.out]; exact sizeEvent) ?_)
      | (go_at_call 41; (with_reducible refine (HMk.out _ 4).mono ?_); rintro e w1 ⟨rfl, b1⟩; have B1 := Lib.hid (BW.out.trans (b1.mono BW.out.size)); clear b1)
      | (go_at_call 48; (with_reducible refine (HLk.out _ 4 rfl B1.out).mono ?_); rintro e w2 ⟨rfl, b2⟩; have B2 := Lib.hid (B1.out.trans (b2.mono B1.out.size)); clear b2))
    go_ret2
    exact ⟨by rw [HSo.out]; rfl, B2.out⟩
  have q5 : (x.ki == 5) = false := by rw [beq_eq_false_iff_ne]; exact h5
  have HSo := Lib.hid (HSn.out h2 h4 h5)
  clear HSx HSn h2 h4 h5 HMk HLk
  generalize x.ki = ki at *
  go_enter Tryd.func38, Tryd.ntmps38
  go_upto_region 1 with fail
  rw [← hW.out]
  clear hW
  go_wp2_with fail
  go_ret2
  exact ⟨by rw [HSo.out]; rfl, BW.out⟩
end Go.Proofs.YtpkkeeblgbdfdaaDoor
