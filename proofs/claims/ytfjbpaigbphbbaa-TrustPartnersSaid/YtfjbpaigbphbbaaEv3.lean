/- Layer 31: the page's example. -/
import Derived.Test.YtfjbpaigbphbbaaEv2
import Derived.Test.YtfjbpaigbphbbaaRowN2
import Derived.Great.BuildSlice
import Derived.Deep.Cut
namespace Go.Proofs.Ytfjbpaigbphbbaa
open Go.RowKit

theorem wpList_buildSlice_on {P : Program} {ops : Array Oper} {rest : List Oper} {o : Oper} {a : Act} {w : World} {Q : Exit → Act → World → Prop} (hw : Region.wanted o (yielded ops a.tmps) = true) (t e : TypeId) (len : Nat) (parts : Array (Nat × Operand)) (ho : o.op = .buildSlice t len parts)
    (cells : Array Value) (ie : TypeInfo) (z : Value)
    (hu : P.underlying t = some (.slice e)) (hie : P.info? e = some ie) (hz : ie.zero = some z) (hsmall : ¬ len * ie.size > 2 ^ 24) (hpos : ¬ len * ie.size = 0)
    (hf : Instr.fill (fun i => some (i * ie.size, ie.size)) ((Array.range (len * ie.size)).map (z.cells[· % z.cells.size]!)) (parts.map fun (i, x) => (i, a.eval x)).toList = some cells)
    (h : wpList P ops Q rest (a.put o.dst (.slice (some ⟨w.heap.size, 0, none⟩) len len)) (w.alloc (.cells cells e))) : wpList P ops Q (o :: rest) a w := by
  simp only [wpList, hw]
  exact Or.inl (wp_buildSlice t e len parts ho cells ie z hu hie hz hsmall hpos hf h)

def zeroE (ki wh : Int) : EvV := ⟨ki, 0, 0, wh, ⟨#[]⟩, ⟨#[]⟩, ⟨#[]⟩, 0, ⟨⟨#[]⟩, ⟨#[]⟩, ⟨#[]⟩, ⟨#[]⟩, ⟨#[]⟩, ⟨#[]⟩, ⟨#[]⟩, ⟨#[]⟩, ⟨#[]⟩, ⟨#[]⟩, ⟨#[]⟩, ⟨#[]⟩, 0, 0, 0, 0, ⟨#[]⟩, ⟨#[]⟩, 0, 0, 0, 0, 0, 0, 0, 0⟩⟩
theorem events_two {w : World} {b : Nat} {t : TypeId} {x y : EvV} (h : Holds w b t (x.row ++ y.row)) : EventsAt w (.slice (some ⟨b, 0, none⟩) 2 2) [x, y] := ⟨_, _, rfl, fun _ => ⟨_, 0, rfl, h.lt, fun k z hk j u hj => by
  rw [h.cell, Array.getElem?_append]
  have hj34 : j < 34 := by
    have := (Array.getElem?_eq_some_iff.1 hj).1
    rwa [z.row_size] at this
  match k, hk with
  | 0, hk =>
    simp at hk; subst hk
    rw [if_pos (by rw [x.row_size]; omega)]
    simpa using hj
  | 1, hk =>
    simp at hk; subst hk
    rw [if_neg (by rw [x.row_size]; omega), x.row_size]
    rw [← hj]; congr 1; omega
  | k + 2, hk => simp at hk⟩⟩
set_option maxRecDepth 100000 in
theorem infoEvent : (Try.prog.info? 38).map (fun i => (i.size, i.zero)) = some (34, some (.agg (zeroE 0 0).row)) := by kernel_rfl
theorem infoEvent' : ∃ ie, Try.prog.info? 38 = some ie ∧ ie.size = 34 ∧ ie.zero = some (.agg (zeroE 0 0).row) := by
  have h := infoEvent
  cases hq : Try.prog.info? 38 with
  | none => rw [hq] at h; simp at h
  | some ie =>
    rw [hq] at h
    simp only [Option.map_some, Option.some.injEq, Prod.mk.injEq] at h
    exact ⟨ie, rfl, h.1, h.2⟩
/-- A slice of two events, filled. -/
def Fills (x y : EvV) : Prop := Instr.fill (fun i => some (i * 34, 34)) ((Array.range (2 * 34)).map ((Value.agg (zeroE 0 0).row).cells[· % (Value.agg (zeroE 0 0).row).cells.size]!)) [(0, .agg x.row), (1, .agg y.row)] = some (x.row ++ y.row)
set_option maxRecDepth 100000 in
theorem fills_ct : Fills (zeroE 2 3) (zeroE 7 3) := by unfold Fills; kernel_rfl
set_option maxRecDepth 100000 in
theorem fills_tc : Fills (zeroE 7 3) (zeroE 2 3) := by unfold Fills; kernel_rfl
theorem parts_two (a : Act) (x y : Operand) (u v : Value) (hx : a.eval x = u) (hy : a.eval y = v) : ((#[(0, x), (1, y)] : Array (Nat × Operand)).map fun (i, x) => (i, a.eval x)).toList = [(0, u), (1, v)] := by simp [hx, hy]
theorem store2_below {w : World} (C T : Array Value) (t : TypeId) : Below w.heap.size w ((w.alloc (.cells C t)).alloc (.cells T t)) := ((Below.refl _ w).alloc (Nat.le_refl _) _).alloc (by simp only [World.size_alloc]; omega) _

set_option maxHeartbeats 4000000 in
set_option maxRecDepth 100000 in
theorem awake31_any (w : World) : Calls Try.prog 7 #[] w fun e w' => e = .returned (.bool true) ∧ Below w.heap.size w w' := by
  obtain ⟨ie, hie, hsz, hz⟩ := infoEvent'
  have F1 : Hid (∀ Z, ie.zero = some Z → Instr.fill (fun i => some (i * ie.size, ie.size)) ((Array.range (2 * ie.size)).map (Z.cells[· % Z.cells.size]!)) [(0, .agg (zeroE 2 3).row), (1, .agg (zeroE 7 3).row)] = some ((zeroE 2 3).row ++ (zeroE 7 3).row)) := fun Z hZ => by
    rw [hz] at hZ; obtain rfl := Option.some.inj hZ
    rw [hsz]; exact fills_ct
  have F2 : Hid (∀ Z, ie.zero = some Z → Instr.fill (fun i => some (i * ie.size, ie.size)) ((Array.range (2 * ie.size)).map (Z.cells[· % Z.cells.size]!)) [(0, .agg (zeroE 7 3).row), (1, .agg (zeroE 2 3).row)] = some ((zeroE 7 3).row ++ (zeroE 2 3).row)) := fun Z hZ => by
    rw [hz] at hZ; obtain rfl := Option.some.inj hZ
    rw [hsz]; exact fills_tc
  have HI := Lib.hid hie
  have HZ := Lib.hid hz
  have HN : Hid (ie.size = 34) := hsz
  have S1 : Hid (∀ (W : World) (D : Array Value), D = (zeroE 2 3).row ++ (zeroE 7 3).row → Calls Try.prog 10 #[.slice (some ⟨W.heap.size, 0, none⟩) 2 2, .int .i64 0] (W.alloc (.cells D 38)) fun e w' => e = .returned (.bool true) ∧ Below W.heap.size W w') := fun W D hD => by
    have b0 : Below W.heap.size W (W.alloc (.cells D 38)) := (Below.refl _ W).alloc (Nat.le_refl _) _
    have := safe_any (events_two (x := zeroE 2 3) (y := zeroE 7 3) (by rw [← hD]; exact Holds.new W 38 D)) (by decide) 0
    exact this.mono fun e w' ⟨h1, h2⟩ => ⟨by rw [h1]; rfl, b0.trans (h2.mono b0.size)⟩
  have S2 : Hid (∀ (W : World) (D : Array Value), D = (zeroE 7 3).row ++ (zeroE 2 3).row → Calls Try.prog 10 #[.slice (some ⟨W.heap.size, 0, none⟩) 2 2, .int .i64 1] (W.alloc (.cells D 38)) fun e w' => e = .returned (.bool false) ∧ Below W.heap.size W w') := fun W D hD => by
    have b0 : Below W.heap.size W (W.alloc (.cells D 38)) := (Below.refl _ W).alloc (Nat.le_refl _) _
    have := safe_any (events_two (x := zeroE 7 3) (y := zeroE 2 3) (by rw [← hD]; exact Holds.new W 38 D)) (by decide) 1
    exact this.mono fun e w' ⟨h1, h2⟩ => ⟨by rw [h1]; rfl, b0.trans (h2.mono b0.size)⟩
  have S3 : Hid (∀ (W : World) (D : Array Value), D = (zeroE 2 3).row ++ (zeroE 7 3).row → Calls Try.prog 16 #[.slice (some ⟨W.heap.size, 0, none⟩) 2 2, .int .i64 3] (W.alloc (.cells D 38)) fun e w' => e = .returned (.int .i64 1) ∧ Below W.heap.size W w') := fun W D hD => by
    have b0 : Below W.heap.size W (W.alloc (.cells D 38)) := (Below.refl _ W).alloc (Nat.le_refl _) _
    have := takenAt_any (events_two (x := zeroE 2 3) (y := zeroE 7 3) (by rw [← hD]; exact Holds.new W 38 D)) (by decide) 3
    exact this.mono fun e w' ⟨h1, h2⟩ => ⟨by rw [h1]; rfl, b0.trans (h2.mono b0.size)⟩
  have Z1 : Hid ((zeroE 2 3).row.size = 34 ∧ (zeroE 2 3).row.all (·.oneCell') = true) := ⟨rfl, EvV.row_one _⟩
  have Z2 : Hid ((zeroE 7 3).row.size = 34 ∧ (zeroE 7 3).row.all (·.oneCell') = true) := ⟨rfl, EvV.row_one _⟩
  have HQ : Hid (∀ t C T, ¬ ie.size * 0 = 1 ∧ ¬ 2 * ie.size > 2 ^ 24 ∧ ¬ 2 * ie.size = 0 ∧ Below w.heap.size w ((w.alloc (.cells C t)).alloc (.cells T t))) := fun t C T => ⟨by omega, by rw [hsz]; decide, by rw [hsz]; decide, store2_below C T t⟩
  clear hie hz hsz
  generalize hC : (zeroE 2 3).row = C at *
  generalize hT : (zeroE 7 3).row = T at *
  have HC : Hid ((zeroE 2 3).row = C) := hC
  have HT : Hid ((zeroE 7 3).row = T) := hT
  clear hC hT
  go_enter Try.func7, Try.ntmps7
  go_upto_region 2 with (first
    | (refine wpList_build_as rfl 38 #[(0, .const (.int .i64 2)), (3, .const (.int .i64 3))] rfl (zeroE 2 3).row (by kernel_rfl) ?_; rw [HC.out])
    | (refine wpList_build_as rfl 38 #[(0, .const (.int .i64 7)), (3, .const (.int .i64 3))] rfl (zeroE 7 3).row (by kernel_rfl) ?_; rw [HT.out])
    | (refine wpList_store_new2 rfl 38 _ _ rfl w.heap.size _ C 38 _ rfl rfl rfl (by rw [Z1.out.1]; exact sizeEvent) (by rw [Z1.out.1]; rfl) Z1.out.2 ?_)
    | (refine wpList_store_new rfl 38 _ _ rfl (w.heap.size + 1) _ T 38 rfl rfl (by simp only [World.size_alloc]) (by rw [Z2.out.1]; exact sizeEvent) (by rw [Z2.out.1]; rfl) Z2.out.2 ?_))
  have HA : Hid (((w.alloc (.cells C 38)).alloc (.cells T 38)).heap[w.heap.size]? = some (.cells C 38 (0, 0)) ∧ ((w.alloc (.cells C 38)).alloc (.cells T 38)).heap[w.heap.size + 1]? = some (.cells T 38 (0, 0))) := Lib.hid ⟨first2_row w C 38 _ rfl, last2_row w T 38 _ rfl⟩
  have HB := Lib.hid (store2_below (w := w) C T 38)
  have HK : Hid (∀ W', Below ((w.alloc (.cells C 38)).alloc (.cells T 38)).heap.size ((w.alloc (.cells C 38)).alloc (.cells T 38)) W' → W'.heap[w.heap.size]? = some (.cells C 38 (0, 0)) ∧ W'.heap[w.heap.size + 1]? = some (.cells T 38 (0, 0))) := fun W' h => ⟨(h.block _ (by simp only [World.size_alloc]; omega)).trans HA.out.1, (h.block _ (by simp only [World.size_alloc]; omega)).trans HA.out.2⟩
  generalize (w.alloc (.cells C 38)).alloc (.cells T 38) = W at *
  have BW := Lib.hid (Below.refl W.heap.size W)
  go_wp2_with (first
    | (refine wpList_load_row rfl 38 _ rfl w.heap.size rfl 38 C (0, 0) _ (by exact HA.out.1) Try.underlying38 rfl (by rw [Z1.out.1]; exact sizeEvent) ?_)
    | (refine wpList_load_row rfl 38 _ rfl (w.heap.size + 1) rfl 38 T (0, 0) _ (by exact HA.out.2) Try.underlying38 rfl (by rw [Z2.out.1]; exact sizeEvent) ?_)
    | (refine wpList_buildSlice rfl 22 38 2 _ rfl (C ++ T) ie _ Try.underlying22 HI.out HZ.out (HQ.out 38 C T).2.1 (HQ.out 38 C T).2.2.1 (by rw [parts_two _ _ _ _ _ rfl rfl]; exact F1.out _ HZ.out) ?_)
    | (go_at_call 10; (with_reducible refine (S1.out _ _ rfl).mono ?_); rintro e w1 ⟨rfl, b1⟩; have B1 := Lib.hid b1; clear b1; have HA1 := Lib.hid (HK.out w1 B1.out))
    | (refine wpList_load_row_on rfl 38 _ rfl w.heap.size rfl 38 C (0, 0) _ (by first | exact HA2.out.1 | exact HA1.out.1) Try.underlying38 rfl (by rw [Z1.out.1]; exact sizeEvent) ?_)
    | (refine wpList_load_row_on rfl 38 _ rfl (w.heap.size + 1) rfl 38 T (0, 0) _ (by first | exact HA2.out.2 | exact HA1.out.2) Try.underlying38 rfl (by rw [Z2.out.1]; exact sizeEvent) ?_)
    | (refine wpList_buildSlice_on rfl 22 38 2 _ rfl (T ++ C) ie _ Try.underlying22 HI.out HZ.out (HQ.out 38 C T).2.1 (HQ.out 38 C T).2.2.1 (by rw [parts_two _ _ _ _ _ rfl rfl]; exact F2.out _ HZ.out) ?_)
    | (refine wpList_buildSlice_on rfl 22 38 2 _ rfl (C ++ T) ie _ Try.underlying22 HI.out HZ.out (HQ.out 38 C T).2.1 (HQ.out 38 C T).2.2.1 (by rw [parts_two _ _ _ _ _ rfl rfl]; exact F1.out _ HZ.out) ?_)
    | (go_at_call 10; (with_reducible refine (S2.out _ _ rfl).mono ?_); rintro e w2 ⟨rfl, b2⟩; have B2 := Lib.hid (B1.out.trans (b2.mono B1.out.size)); clear b2; have HA2 := Lib.hid (HK.out w2 B2.out))
    | (go_at_call 16; (with_reducible refine (S3.out _ _ rfl).mono ?_); rintro e w3 ⟨rfl, b3⟩; have B3 := Lib.hid (B2.out.trans (b3.mono B2.out.size)); clear b3))
  go_ret
  exact ⟨rfl, HB.out.trans (B3.out.mono HB.out.size)⟩
end Go.Proofs.Ytfjbpaigbphbbaa
