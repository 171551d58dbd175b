/- The document's table as the reference builds it.
The row of a number, the fitting format and the class by the reference; Class and Known of the code. -/
import Derived.Test.YtbnecckgapainaaFitP
import Derived.Laws.Rows
namespace Go.Proofs.Ytbnecckgapainaa
open Go.RowKit

abbrev RowS := Int × ByteArray × List ByteArray
def rowsFrom (b : Nat) : List RowS → List Value
  | [] => []
  | r :: l => .int .i64 r.1 :: .string r.2.1 :: .slice (some ⟨b, 0, none⟩) r.2.2.length r.2.2.length :: rowsFrom (b + 1) l
def textObjs : List Obj := tableP.map fun r => .cells (r.2.2.map .string).toArray 9
def tabWorld (w : World) : World := (textObjs.foldl World.alloc w).alloc (.cells (rowsFrom w.heap.size tableP).toArray 71)

/-- A block holds the rows. -/
def RowsAt (B : Nat) (w : World) (b : Nat) (l : List RowS) : Prop :=
  b < w.heap.size ∧ B ≤ b ∧ ∀ k r, l[k]? = some r → w.cell? ⟨b, k * 3, none⟩ = some (.int .i64 r.1) ∧ w.cell? ⟨b, k * 3 + 1, none⟩ = some (.string r.2.1) ∧ ∃ c, B ≤ c ∧ w.cell? ⟨b, k * 3 + 2, none⟩ = some (.slice (some ⟨c, 0, none⟩) r.2.2.length r.2.2.length) ∧ TextsAt w (.slice (some ⟨c, 0, none⟩) r.2.2.length r.2.2.length) r.2.2
theorem RowsAt.below {B : Nat} {w w' : World} {b : Nat} {l : List RowS} (h : RowsAt B w b l) (hb : Below w.heap.size w w') : RowsAt B w' b l := by
  obtain ⟨h1, h0, h2⟩ := h
  refine ⟨Nat.lt_of_lt_of_le h1 hb.size, h0, fun k r hr => ?_⟩
  obtain ⟨a, b', v, q, c, d⟩ := h2 k r hr
  exact ⟨(hb.cell (p := ⟨b, k * 3, none⟩) h1).trans a, (hb.cell (p := ⟨b, k * 3 + 1, none⟩) h1).trans b', v, q, (hb.cell (p := ⟨b, k * 3 + 2, none⟩) h1).trans c, d.below hb⟩
theorem rowsFrom_at : ∀ (l : List RowS) (b k : Nat) (r : RowS), l[k]? = some r → (rowsFrom b l)[k * 3]? = some (.int .i64 r.1) ∧ (rowsFrom b l)[k * 3 + 1]? = some (.string r.2.1) ∧ (rowsFrom b l)[k * 3 + 2]? = some (.slice (some ⟨b + k, 0, none⟩) r.2.2.length r.2.2.length)
  | [], _, k, r, h => by simp at h
  | x :: l, b, 0, r, h => by
    simp at h
    subst h
    exact ⟨rfl, rfl, rfl⟩
  | x :: l, b, k + 1, r, h => by
    have ih := rowsFrom_at l (b + 1) k r (by simpa using h)
    rw [show (k + 1) * 3 = k * 3 + 1 + 1 + 1 by omega]
    simp only [rowsFrom, List.getElem?_cons_succ]
    rw [show b + (k + 1) = b + 1 + k by omega]
    exact ih
theorem allocs_size (os : List Obj) : ∀ w : World, (os.foldl World.alloc w).heap.size = w.heap.size + os.length := by
  induction os with
  | nil => intro w; rfl
  | cons o os ih =>
    intro w
    rw [List.foldl_cons, ih]
    simp; omega
theorem allocs_below (os : List Obj) : ∀ w : World, Below w.heap.size w (os.foldl World.alloc w) := by
  induction os with
  | nil => intro w; exact Below.refl _ _
  | cons o os ih =>
    intro w
    rw [List.foldl_cons]
    exact ((Below.refl _ _).alloc (Nat.le_refl _) _).trans ((ih _).mono (by simp))
theorem allocs_at : ∀ (os : List Obj) (w : World) (i : Nat) (o : Obj), os[i]? = some o → (os.foldl World.alloc w).heap[w.heap.size + i]? = some o
  | [], _, i, o, h => by simp at h
  | x :: os, w, 0, o, h => by
    simp at h
    subst h
    rw [List.foldl_cons]
    rw [(allocs_below os (w.alloc x)).block _ (by simp)]
    exact heap_alloc_new w x
  | x :: os, w, i + 1, o, h => by
    rw [List.foldl_cons]
    have := allocs_at os (w.alloc x) i o (by simpa using h)
    rw [World.size_alloc] at this
    rw [show w.heap.size + (i + 1) = w.heap.size + 1 + i by omega]
    exact this
theorem texts_ofBlock {w : World} {b : Nat} {t : TypeId} {l : List ByteArray} (h : w.heap[b]? = some (.cells (l.map Value.string).toArray t)) : TextsAt w (.slice (some ⟨b, 0, none⟩) l.length l.length) l :=
  ⟨_, _, rfl, fun _ => ⟨b, 0, rfl, (Array.getElem?_eq_some_iff.1 h).1, fun k x hk => by
    rw [cell_of_row w b (0 + k) _ t (0, 0) h]
    simp [hk]⟩⟩
theorem rowsAt_tab (w : World) : RowsAt w.heap.size (tabWorld w) (w.heap.size + 19) tableP := by
  have hsz : (textObjs.foldl World.alloc w).heap.size = w.heap.size + 19 := by rw [allocs_size]; rfl
  have hb : Below (textObjs.foldl World.alloc w).heap.size (textObjs.foldl World.alloc w) (tabWorld w) := (Below.refl _ _).alloc (Nat.le_refl _) _
  have hn : (tabWorld w).heap[w.heap.size + 19]? = some (.cells (rowsFrom w.heap.size tableP).toArray 71) := by
    rw [← hsz]; exact heap_alloc_new _ _
  refine ⟨by rw [← hsz]; unfold tabWorld; simp, by omega, fun k r hr => ?_⟩
  have hk : k < 19 := (List.getElem?_eq_some_iff.1 hr).1
  have h := rowsFrom_at tableP w.heap.size k r hr
  refine ⟨?_, ?_, w.heap.size + k, by omega, ?_, texts_ofBlock (b := w.heap.size + k) (t := 9) ?_⟩
  · rw [cell_of_row _ _ _ _ _ (0, 0) hn]; simpa using h.1
  · rw [cell_of_row _ _ _ _ _ (0, 0) hn]; simpa using h.2.1
  · rw [cell_of_row _ _ _ _ _ (0, 0) hn]; simpa using h.2.2
  · rw [hb.block _ (by omega)]
    exact allocs_at textObjs w k _ (by unfold textObjs; rw [List.getElem?_map, hr]; rfl)
theorem below_tab (w : World) : Below w.heap.size w (tabWorld w) := (allocs_below textObjs w).alloc (by rw [allocs_size]; omega) _

set_option maxHeartbeats 4000000 in
set_option maxRecDepth 100000 in
theorem table_raw (w : World) : Calls Try.prog 58 #[] w fun e w1 => e = .returned (.slice (some ⟨w.heap.size + 1 + 1 + 1 + 1 + 1 + 1 + 1 + 1 + 1 + 1 + 1 + 1 + 1 + 1 + 1 + 1 + 1 + 1 + 1, 0, none⟩) 19 19) ∧ w1 = tabWorld w := by
  go_enter Try.func58, Try.ntmps58
  go_wp2_with fail
  go_ret
  exact ⟨rfl, by kernel_rfl⟩
theorem table_any (w : World) : Calls Try.prog 58 #[] w fun e w' => ∃ b, e = .returned (.slice (some ⟨b, 0, none⟩) 19 19) ∧ RowsAt w.heap.size w' b tableP ∧ Below w.heap.size w w' :=
  (table_raw w).mono fun e w' ⟨he, hw⟩ => ⟨w.heap.size + 19, he, by rw [hw]; exact rowsAt_tab w, by rw [hw]; exact below_tab w⟩
end Go.Proofs.Ytbnecckgapainaa

namespace Go.Proofs.Ytbnecckgapainaa
open Go.RowKit

def ofP (n : Int) : RowS := (rowP n).getD (0, ⟨#[]⟩, [])
theorem ofP_forms (n : Int) : (ofP n).2.2 = formsP n := by unfold ofP formsP; cases rowP n <;> rfl
theorem ofP_word (n : Int) : (ofP n).2.1 = wordP n := by unfold ofP wordP; cases rowP n <;> rfl

set_option maxRecDepth 100000 in
theorem of_any (w : World) (n : Int) : Calls Try.prog 27 #[.int .i64 n] w fun e w' => ∃ v, e = .returned (.agg #[.int .i64 (ofP n).1, .string (ofP n).2.1, v]) ∧ TextsAt w' v (ofP n).2.2 ∧ Below w.heap.size w w' := by
  have HH : Hid (∀ (k : Nat) (hk : k < tableP.length), (∀ x ∈ tableP.take k, (x.1 == n) = false) → (tableP[k].1 == n) = true → rowP n = some tableP[k]) := fun k hk => rowP_hit hk
  have HE := Lib.hid (@rowP_none n)
  have hlen : tableP.length = 19 := rfl
  have HT := Lib.hid table_any
  generalize tableP = l at *
  go_enter Try.func27, Try.ntmps27
  go_wp2_with (go_at_call 58; refine (HT.out _).mono ?_; rintro e w1 ⟨b, rfl, hrow, hbel⟩)
  have hbw : Below w.heap.size w w1 := ((Below.refl _ _).alloc (Nat.le_refl _) _).trans (hbel.mono (by simp))
  have hH : Holds w1 w.heap.size 71 #[.int .i64 0, .string ⟨#[]⟩, .slice none 0 0] := by
    have := Holds.new w 71 #[.int .i64 0, .string ⟨#[]⟩, .slice none 0 0]
    exact (hbel.block _ (by simp)).trans this
  simp only [World.size_alloc] at hrow
  have HR := Lib.hid hrow
  have HBW := Lib.hid hbw
  have hbl := hrow.1
  have hbn := hrow.2.1
  clear hrow hbel hbw
  go_loopw [4] (fun i wr => ∃ k : Nat, k ≤ 19 ∧ i = .int .i64 k ∧ (∀ x ∈ l.take k, (x.1 == n) = false) ∧ wr = w1) (fun i _ => 19 - (intOf i).toNat)
  case atStart => exact ⟨0, Nat.zero_le _, rfl, by simp, rfl⟩
  case round =>
    obtain ⟨k, hk, rfl, htk, rfl⟩ := hrel
    have c0 := hH.cell 0
    have c1 := hH.cell 1
    have c2 := hH.cell 2
    have z0 := hH.frozen 0
    have z1 := hH.frozen 1
    have z2 := hH.frozen 2
    by_cases hlt : k < 19
    · have hkl : k < l.length := by omega
      obtain ⟨x, hx⟩ : ∃ x, x = l[k] := ⟨_, rfl⟩
      obtain ⟨d0, d1, c, hcb, d2, htx⟩ := HR.out.2.2 k x (by rw [hx]; exact List.getElem?_eq_getElem hkl)
      have HX := Lib.hid htx
      have HN : Hid ((x.1 == n) = false → ∀ y ∈ l.take (k + 1), (y.1 == n) = false) := fun e => take_all hkl htk (by rw [← hx]; exact e)
      have HTT : Hid ((x.1 == n) = true → rowP n = some x) := fun e => by
        show _ = _
        rw [hx]; exact HH.out k hkl htk (by rw [← hx]; exact e)
      obtain ⟨xn, xs, xf⟩ := x
      clear hx htk htx
      simp only at d0 d1 d2
      cases hm : (xn == n) with
      | true =>
        have hS := Holds.set (Holds.set (Holds.set hH 0 (.int .i64 xn)) 1 (.string xs)) 2 (.slice (some ⟨c, 0, none⟩) xf.length xf.length)
        have mf : Moves (fun i => i = w.heap.size) wr _ := (((Moves.refl (fun i => i = w.heap.size) wr).setCell (p := ⟨w.heap.size, 0, none⟩) (.inl rfl) (.int .i64 xn)).setCell (p := ⟨w.heap.size, 1, none⟩) (.inl rfl) (.string xs)).setCell (p := ⟨w.heap.size, 2, none⟩) (.inl rfl) (.slice (some ⟨c, 0, none⟩) xf.length xf.length)
        have HE : Hid (ofP n = (xn, xs, xf)) := by
          show _ = _
          unfold ofP
          rw [HTT.out hm]; rfl
        have HO : Hid (TextsAt (((wr.setCell ⟨w.heap.size, 0, none⟩ (.int .i64 xn)).setCell ⟨w.heap.size, 1, none⟩ (.string xs)).setCell ⟨w.heap.size, 2, none⟩ (.slice (some ⟨c, 0, none⟩) xf.length xf.length)) (.slice (some ⟨c, 0, none⟩) xf.length xf.length) xf ∧ Below w.heap.size w (((wr.setCell ⟨w.heap.size, 0, none⟩ (.int .i64 xn)).setCell ⟨w.heap.size, 1, none⟩ (.string xs)).setCell ⟨w.heap.size, 2, none⟩ (.slice (some ⟨c, 0, none⟩) xf.length xf.length))) := by
          refine ⟨HX.out.keep mf.size fun b' off cap i hv hb => mf.cell (p := ⟨b', i, none⟩) hb (fun e => ?_), HBW.out.trans (mf.below HBW.out.size (fun i hi => by omega))⟩
          simp only [Value.slice.injEq, Option.some.injEq, Addr.mk.injEq] at hv
          have e' : b' = w.heap.size := e
          omega
        clear HX mf
        go_wp2_with fail
        refine bodyPost_ret (v := .agg #[.int .i64 xn, .string xs, .slice (some ⟨c, 0, none⟩) xf.length xf.length]) ?_ rfl ⟨_, by rw [HE.out], by rw [HE.out]; exact HO.out.1, HO.out.2⟩
        exact results_cell_row rfl _ _ w.heap.size _ _ (0, 0) _ rfl hS Try.underlying71 rfl (by kernel_rfl)
      | false =>
        go_wp2_with fail
        go_roundw
        case rel => exact ⟨k + 1, by omega, by go_num, HN.out hm, trivial⟩
        case measure => simp [intOf]; omega
    · have hkl : k = 19 := by omega
      subst hkl
      have HX : Hid (rowP n = none) := HE.out (by rwa [List.take_of_length_le (by omega)] at htk)
      clear htk hlt
      have hS := Holds.set (Holds.set (Holds.set hH 0 (.int .i64 0)) 1 (.string ⟨#[]⟩)) 2 (.slice none 0 0)
      have mf : Moves (fun i => i = w.heap.size) wr _ := (((Moves.refl (fun i => i = w.heap.size) wr).setCell (p := ⟨w.heap.size, 0, none⟩) (.inl rfl) (.int .i64 0)).setCell (p := ⟨w.heap.size, 1, none⟩) (.inl rfl) (.string ⟨#[]⟩)).setCell (p := ⟨w.heap.size, 2, none⟩) (.inl rfl) (.slice none 0 0)
      have HE : Hid (ofP n = (0, ⟨#[]⟩, [])) := by
        show _ = _
        unfold ofP
        rw [HX.out]; rfl
      have HO := Lib.hid (HBW.out.trans (mf.below HBW.out.size (fun i hi => by omega)))
      clear mf
      go_wp2_with fail
      refine bodyPost_ret (v := .agg #[.int .i64 0, .string ⟨#[]⟩, .slice none 0 0]) ?_ rfl ⟨_, by rw [HE.out], by rw [HE.out]; exact TextsAt.nil _, HO.out⟩
      exact results_cell_row rfl _ _ w.heap.size _ _ (0, 0) _ rfl hS Try.underlying71 rfl (by kernel_rfl)
end Go.Proofs.Ytbnecckgapainaa
