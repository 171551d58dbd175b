/- Part 32 of what the statement wants. -/
import Derived.Great.BuildSlice
import Derived.Deep.Cut
import Derived.Outline
import Derived.Laws.BytesArg
import Derived.Laws.MakeOwn
import Derived.Laws.NewBlocks
import Derived.Laws.BitsAllLaws
import Derived.Laws.BitsLemmas
import Derived.KernelRfl
import Derived.Test.YtpkkeeblgbdfdaaDoorPk00
import Derived.Test.YtpkkeeblgbdfdaaDoorPk02
import Derived.Test.YtpkkeeblgbdfdaaDoorPk03
import Derived.Test.YtpkkeeblgbdfdaaDoorPk31
namespace Go.Proofs.YtpkkeeblgbdfdaaDoor
open Go.RowKit


theorem wpList_buildSlice_on {P : Program} {ops : Array Oper} {rest : List Oper} {o : Oper} {a : Act} {w : World} {Q : Exit → Act → World → Prop} (hw : Region.wanted o (yielded ops a.tmps) = true) (t e : TypeId) (len : Nat) (parts : Array (Nat × Operand)) (ho : o.op = .buildSlice t len parts)
    (cells : Array Value) (ie : TypeInfo) (z : Value)
    (hu : P.underlying t = some (.slice e)) (hie : P.info? e = some ie) (hz : ie.zero = some z) (hsmall : ¬ len * ie.size > 2 ^ 24) (hpos : ¬ len * ie.size = 0)
    (hf : Instr.fill (fun i => some (i * ie.size, ie.size)) ((Array.range (len * ie.size)).map (z.cells[· % z.cells.size]!)) (parts.map fun (i, x) => (i, a.eval x)).toList = some cells)
    (h : wpList P ops Q rest (a.put o.dst (.slice (some ⟨w.heap.size, 0, none⟩) len len)) (w.alloc (.cells cells e))) : wpList P ops Q (o :: rest) a w := by
  simp only [wpList, hw]
  exact Or.inl (wp_buildSlice t e len parts ho cells ie z hu hie hz hsmall hpos hf h)
def zeroE (ki wh : Int) : EvV := ⟨ki, 0, 0, wh, ⟨#[]⟩, ⟨#[]⟩, ⟨#[]⟩, 0, ⟨⟨#[]⟩, ⟨#[]⟩, ⟨#[]⟩, ⟨#[]⟩, ⟨#[]⟩, ⟨#[]⟩, ⟨#[]⟩, ⟨#[]⟩, ⟨#[]⟩, ⟨#[]⟩, ⟨#[]⟩, ⟨#[]⟩, 0, 0, 0, 0, ⟨#[]⟩, ⟨#[]⟩, 0, 0, 0, 0, 0, 0, 0, 0⟩⟩
theorem events_two {w : World} {b : Nat} {t : TypeId} {x y : EvV} (h : Holds w b t (x.row ++ y.row)) : EventsAt w (.slice (some ⟨b, 0, none⟩) 2 2) [x, y] := ⟨_, _, rfl, fun _ => ⟨_, 0, rfl, h.lt, fun k z hk j u hj => by
  rw [h.cell, Array.getElem?_append]
  have hj34 : j < 34 := by
    have := (Array.getElem?_eq_some_iff.1 hj).1
    rwa [z.row_size] at this
  match k, hk with
  | 0, hk =>
    simp at hk; subst hk
    rw [if_pos (by rw [x.row_size]; omega)]
    simpa using hj
  | 1, hk =>
    simp at hk; subst hk
    rw [if_neg (by rw [x.row_size]; omega), x.row_size]
    rw [← hj]; congr 1; omega
  | k + 2, hk => simp at hk⟩⟩
set_option maxRecDepth 100000 in
theorem infoEvent : (Tryd.prog.info? 45).map (fun i => (i.size, i.zero)) = some (34, some (.agg (zeroE 0 0).row)) := by kernel_rfl
theorem infoEvent' : ∃ ie, Tryd.prog.info? 45 = some ie ∧ ie.size = 34 ∧ ie.zero = some (.agg (zeroE 0 0).row) := by
  have h := infoEvent
  cases hq : Tryd.prog.info? 45 with
  | none => rw [hq] at h; simp at h
  | some ie =>
    rw [hq] at h
    simp only [Option.map_some, Option.some.injEq, Prod.mk.injEq] at h
    exact ⟨ie, rfl, h.1, h.2⟩
/-- A slice of two events, filled. -/
def Fills (x y : EvV) : Prop := Instr.fill (fun i => some (i * 34, 34)) ((Array.range (2 * 34)).map ((Value.agg (zeroE 0 0).row).cells[· % (Value.agg (zeroE 0 0).row).cells.size]!)) [(0, .agg x.row), (1, .agg y.row)] = some (x.row ++ y.row)
theorem parts_two (a : Act) (x y : Operand) (u v : Value) (hx : a.eval x = u) (hy : a.eval y = v) : ((#[(0, x), (1, y)] : Array (Nat × Operand)).map fun (i, x) => (i, a.eval x)).toList = [(0, u), (1, v)] := by simp [hx, hy]
end Go.Proofs.YtpkkeeblgbdfdaaDoor

namespace Go.Proofs.YtpkkeeblgbdfdaaDoor
open Go.RowKit

def tk1 : EvV := zeroE 7 1
theorem events_one {w : World} {b : Nat} {t : TypeId} {x : EvV} (h : Holds w b t x.row) : EventsAt w (.slice (some ⟨b, 0, none⟩) 1 1) [x] := ⟨_, _, rfl, fun _ => ⟨_, 0, rfl, h.lt, fun k z hk j u hj => by
  match k, hk with
  | 0, hk =>
    simp at hk; subst hk
    rw [h.cell, ← hj]; congr 1; omega
  | k + 1, hk => simp at hk⟩⟩
theorem parts_one (a : Act) (x : Operand) (u : Value) (hx : a.eval x = u) : ((#[(0, x)] : Array (Nat × Operand)).map fun (i, x) => (i, a.eval x)).toList = [(0, u)] := by simp [hx]
set_option maxRecDepth 100000 in
theorem fills_tt : Fills tk1 tk1 := by unfold Fills; kernel_rfl
set_option maxRecDepth 100000 in
theorem fills_t : Instr.fill (fun i => some (i * 34, 34)) ((Array.range (1 * 34)).map ((Value.agg (zeroE 0 0).row).cells[· % (Value.agg (zeroE 0 0).row).cells.size]!)) [(0, .agg tk1.row)] = some tk1.row := by kernel_rfl
set_option maxRecDepth 100000 in
theorem wrong_tt : wrongI (SA [tk1, tk1]) [tk1, tk1] = 1 ∧ wrongW (SA [tk1, tk1]) [tk1, tk1] = ⟨#[116, 97, 107, 101, 110]⟩ := by constructor <;> kernel_rfl
set_option maxRecDepth 100000 in
theorem wrong_t : (wrongW (SA [tk1]) [tk1]).size = 0 := by kernel_rfl
theorem tk1_ok : ∀ u ∈ tk1.row.toList, CellOk u := by
  intro u hu
  have h : ∀ u ∈ (zeroE 7 1).row.toList, (match u with | .int k n => (Lit.int k n).wf | .string s => decide (s.size ≤ maxLen) | _ => true) = true := by
    have : ((zeroE 7 1).row.toList.all fun u => match u with | .int k n => (Lit.int k n).wf | .string s => decide (s.size ≤ maxLen) | _ => true) = true := by kernel_rfl
    exact List.all_eq_true.1 this
  have h2 := h u hu
  cases u <;> simp_all [CellOk]
set_option maxHeartbeats 4000000 in
set_option maxRecDepth 100000 in
theorem awake32_any (w : World) : Calls Tryd.prog 4 #[] w fun e w' => e = .returned (.bool true) ∧ Below w.heap.size w w' := by
  obtain ⟨ie, hie, hsz, hz⟩ := infoEvent'
  have F1 : Hid (∀ Z, ie.zero = some Z → Instr.fill (fun i => some (i * ie.size, ie.size)) ((Array.range (2 * ie.size)).map (Z.cells[· % Z.cells.size]!)) [(0, .agg tk1.row), (1, .agg tk1.row)] = some (tk1.row ++ tk1.row)) := fun Z hZ => by
    rw [hz] at hZ; obtain rfl := Option.some.inj hZ
    rw [hsz]; exact fills_tt
  have F2 : Hid (∀ Z, ie.zero = some Z → Instr.fill (fun i => some (i * ie.size, ie.size)) ((Array.range (1 * ie.size)).map (Z.cells[· % Z.cells.size]!)) [(0, .agg tk1.row)] = some tk1.row) := fun Z hZ => by
    rw [hz] at hZ; obtain rfl := Option.some.inj hZ
    rw [hsz]; exact fills_t
  have HI := Lib.hid hie
  have HZ := Lib.hid hz
  have S1 : Hid (∀ (W : World) (D : Array Value), D = tk1.row ++ tk1.row → Calls Tryd.prog 7 #[.slice (some ⟨W.heap.size, 0, none⟩) 2 2] (W.alloc (.cells D 45)) fun e w' => e = .returned (.tuple #[.int .i64 1, .string ⟨#[116, 97, 107, 101, 110]⟩]) ∧ Below W.heap.size W w') := fun W D hD => by
    have b0 : Below W.heap.size W (W.alloc (.cells D 45)) := (Below.refl _ W).alloc (Nat.le_refl _) _
    have := agWrong_any (events_two (x := tk1) (y := tk1) (by rw [← hD]; exact Holds.new W 45 D)) (by decide) (by intro x hx; simp at hx; subst hx; exact tk1_ok)
    rw [wrong_tt.1, wrong_tt.2] at this
    exact this.mono fun e w' ⟨h1, h2⟩ => ⟨h1, b0.trans (h2.mono b0.size)⟩
  have S2 : Hid (∀ (W : World) (D : Array Value), D = tk1.row → Calls Tryd.prog 8 #[.slice (some ⟨W.heap.size, 0, none⟩) 1 1] (W.alloc (.cells D 45)) fun e w' => e = .returned .nilIface ∧ Below W.heap.size W w') := fun W D hD => by
    have b0 : Below W.heap.size W (W.alloc (.cells D 45)) := (Below.refl _ W).alloc (Nat.le_refl _) _
    have := agCheck_ok (events_one (x := tk1) (by rw [← hD]; exact Holds.new W 45 D)) (by decide) (by intro x hx; simp at hx; subst hx; exact tk1_ok) wrong_t
    exact this.mono fun e w' ⟨h1, h2⟩ => ⟨h1, b0.trans (h2.mono b0.size)⟩
  have Z1 : Hid (tk1.row.size = 34 ∧ tk1.row.all (·.oneCell') = true) := ⟨rfl, EvV.row_one _⟩
  have HQ : Hid (¬ 2 * ie.size > 2 ^ 24 ∧ ¬ 2 * ie.size = 0 ∧ ¬ 1 * ie.size > 2 ^ 24 ∧ ¬ 1 * ie.size = 0) := ⟨by rw [hsz]; decide, by rw [hsz]; decide, by rw [hsz]; decide, by rw [hsz]; decide⟩
  clear hie hz hsz
  generalize hT : tk1.row = T at *
  have HT : Hid (tk1.row = T) := hT
  clear hT
  go_enter Tryd.func4, Tryd.ntmps4
  go_upto_region 2 with (first
    | (refine wpList_build_as rfl 45 #[(0, .const (.int .i64 7)), (3, .const (.int .i64 1))] rfl tk1.row (by kernel_rfl) ?_; rw [HT.out])
    | (refine wpList_store_new rfl 45 _ _ rfl w.heap.size _ T 45 rfl rfl rfl (by rw [Z1.out.1]; exact sizeEvent) (by rw [Z1.out.1]; rfl) Z1.out.2 ?_))
  have HB : Hid (Below w.heap.size w (w.alloc (.cells T 45))) := Lib.hid ((Below.refl _ w).alloc (Nat.le_refl _) _)
  have HA : Hid (Holds (w.alloc (.cells T 45)) w.heap.size 45 T) := Lib.hid (Holds.new w _ _)
  obtain ⟨E, hE⟩ : ∃ E, Hid (E = w.heap.size) := ⟨_, Lib.hid rfl⟩
  rw [← hE.out] at HA ⊢
  clear hE
  generalize w.alloc (.cells T 45) = W at *
  have tok : Hid True := trivial
  have tok2 : Hid True := trivial
  have tok3 : Hid True := trivial
  go_wp2_with (first
    | (clear tok; refine wpList_load_row rfl 45 _ rfl E rfl 45 T (0, 0) _ (by exact HA.out) Tryd.underlying45 rfl (by rw [Z1.out.1]; exact sizeEvent) ?_)
    | (clear tok2; refine wpList_load_row rfl 45 _ rfl E rfl 45 T (0, 0) _ (by exact HA.out) Tryd.underlying45 rfl (by rw [Z1.out.1]; exact sizeEvent) ?_)
    | (refine wpList_buildSlice rfl 22 45 2 _ rfl (T ++ T) ie _ Tryd.underlying22 HI.out HZ.out HQ.out.1 HQ.out.2.1 (by rw [parts_two _ _ _ _ _ rfl rfl]; exact F1.out _ HZ.out) ?_)
    | (go_at_call 7; (with_reducible refine (S1.out _ _ rfl).mono ?_); rintro e w1 ⟨rfl, b1⟩; have B1 := Lib.hid b1; have HA1 : Hid (Holds w1 E 45 T) := Lib.hid ((b1.block _ HA.out.lt).trans HA.out); clear b1)
    | (clear tok3; refine wpList_load_row_on rfl 45 _ rfl E rfl 45 T (0, 0) _ (by exact HA1.out) Tryd.underlying45 rfl (by rw [Z1.out.1]; exact sizeEvent) ?_)
    | (refine wpList_buildSlice_on rfl 22 45 1 _ rfl T ie _ Tryd.underlying22 HI.out HZ.out HQ.out.2.2.1 HQ.out.2.2.2 (by rw [parts_one _ _ _ rfl]; exact F2.out _ HZ.out) ?_)
    | (go_at_call 8; (with_reducible refine (S2.out _ _ rfl).mono ?_); rintro e w2 ⟨rfl, b2⟩; have B2 := Lib.hid (B1.out.trans (b2.mono B1.out.size)); clear b2))
  go_ret
  exact ⟨rfl, HB.out.trans (B2.out.mono HB.out.size)⟩
end Go.Proofs.YtpkkeeblgbdfdaaDoor

namespace Go.Proofs.YtpkkeeblgbdfdaaDoor
open Go.RowKit

end Go.Proofs.YtpkkeeblgbdfdaaDoor
