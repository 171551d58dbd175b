/- Layer 31: the first exchange of a session. -/
import Derived.Test.YtfjbpaigbphbbaaEv1
import Derived.Test.YtfjbpaigbphbbaaEv3
import Derived.Test.YtfjbpaigbphbbaaEvE
import Derived.Test.YtfjbpaigbphbbaaRowN2
import Derived.Deep.Cut
import Derived.Shelf.Abstract
import Derived.Laws.CopyOwn
namespace Go.Proofs.Ytfjbpaigbphbbaa
open Go.RowKit

def isExP (x : EvV) : Bool := x.ki == 1 || x.ki == 2
def beginsP (x : EvV) : Bool := isExP x && x.nu == 0
def firstP (s : Int) (x : EvV) : Bool := beginsP x && x.se == s
set_option maxHeartbeats 1000000 in
set_option maxRecDepth 100000 in
theorem isEx_any (x : EvV) (w : World) : Calls Try.prog 30 #[.agg x.row] w fun e w' => e = .returned (.bool (isExP x)) ∧ Below w.heap.size w w' := by
  have HS : Hid (x.row.size = 34) := x.row_size
  have g0 := x.row_ki
  have HT : Hid (isExP x = (x.ki == 1 || x.ki == 2)) := rfl
  obtain ⟨R, hR⟩ : ∃ R, x.row = R := ⟨_, rfl⟩
  rw [hR] at HS g0 ⊢
  clear hR
  have c0 := ((cell_of_row _ w.heap.size 0 R 38 (0, 0) (heap_alloc_new w (.cells R 38))).trans g0)
  generalize isExP x = z at *
  generalize x.ki = ki at *
  clear g0
  have BB : Hid (Below w.heap.size w (w.alloc (.cells R 38))) := Lib.hid ((Below.refl _ w).alloc (Nat.le_refl _) _)
  by_cases h2 : ki = 1
  · subst h2
    go_enter Try.func30, Try.ntmps30
    go_wp2_with fail
    go_ret
    exact ⟨by rw [HT.out]; rfl, BB.out⟩
  · have q : (ki == 1) = false := by rw [beq_eq_false_iff_ne]; exact h2
    go_enter Try.func30, Try.ntmps30
    go_wp2_with fail
    go_ret
    exact ⟨by rw [HT.out, q]; rfl, BB.out⟩
set_option maxHeartbeats 1000000 in
set_option maxRecDepth 100000 in
theorem begins_any (x : EvV) (w : World) : Calls Try.prog 28 #[.agg x.row] w fun e w' => e = .returned (.bool (beginsP x)) ∧ Below w.heap.size w w' := by
  have HS : Hid (x.row.size = 34) := x.row_size
  have HG2 := Lib.hid x.row_nu
  have HT : Hid (beginsP x = (isExP x && x.nu == 0)) := rfl
  have HI := Lib.hid (isEx_any x)
  obtain ⟨R, hR⟩ : ∃ R, x.row = R := ⟨_, rfl⟩
  rw [hR] at HS HG2 HI ⊢
  clear hR
  have HH := Lib.hid (heap_alloc_new w (.cells R 38))
  have BB : Hid (Below w.heap.size w (w.alloc (.cells R 38))) := Lib.hid ((Below.refl _ w).alloc (Nat.le_refl _) _)
  have HL : Hid (w.heap.size < (w.alloc (.cells R 38)).heap.size) := Lib.hid (by simp)
  generalize beginsP x = z at *
  generalize isExP x = i at *
  generalize x.nu = nu at *
  have HC : Hid (∀ W, Below (w.alloc (.cells R 38)).heap.size (w.alloc (.cells R 38)) W → W.cell? ⟨w.heap.size, 2, none⟩ = some (.int .i64 nu)) := fun W h => (cell_heap ((h.block _ HL.out).trans HH.out) 2).trans HG2.out
  cases i with
  | false =>
    go_enter Try.func28, Try.ntmps28
    go_wp2_with (first
      | (refine wpList_load_row rfl 38 _ rfl w.heap.size rfl 38 R (0, 0) _ (by exact HH.out) Try.underlying38 rfl (by rw [HS.out]; exact sizeEvent) ?_)
      | (go_at_call 30; (with_reducible refine (HI.out _).mono ?_); rintro e w1 ⟨rfl, b1⟩; have B1 := Lib.hid b1; clear b1))
    go_ret
    exact ⟨by rw [HT.out]; rfl, BB.out.trans (B1.out.mono BB.out.size)⟩
  | true =>
    go_enter Try.func28, Try.ntmps28
    go_wp2_with (first
      | (refine wpList_load_row rfl 38 _ rfl w.heap.size rfl 38 R (0, 0) _ (by exact HH.out) Try.underlying38 rfl (by rw [HS.out]; exact sizeEvent) ?_)
      | (go_at_call 30; (with_reducible refine (HI.out _).mono ?_); rintro e w1 ⟨rfl, b1⟩; have B1 := Lib.hid b1; clear b1; have c2 := HC.out w1 B1.out))
    go_ret
    exact ⟨by rw [HT.out]; rfl, BB.out.trans (B1.out.mono BB.out.size)⟩
set_option maxHeartbeats 1000000 in
set_option maxRecDepth 100000 in
theorem firstEx1_any (x : EvV) (s : Int) (b : Nat) (w : World) (hw : w.cell? ⟨b, 0, none⟩ = some (.int .i64 s)) (hb : b < w.heap.size) :
    Calls Try.prog 32 #[.agg x.row, .pointer (some ⟨b, 0, none⟩)] w fun e w' => e = .returned (.bool (firstP s x)) ∧ Below w.heap.size w w' := by
  have HS : Hid (x.row.size = 34) := x.row_size
  have HG1 := Lib.hid x.row_se
  have HT : Hid (firstP s x = (beginsP x && x.se == s)) := rfl
  have HI := Lib.hid (begins_any x)
  obtain ⟨R, hR⟩ : ∃ R, x.row = R := ⟨_, rfl⟩
  rw [hR] at HS HG1 HI ⊢
  clear hR
  have HH := Lib.hid (heap_alloc_new w (.cells R 38))
  have BB : Hid (Below w.heap.size w (w.alloc (.cells R 38))) := Lib.hid ((Below.refl _ w).alloc (Nat.le_refl _) _)
  have HL : Hid (w.heap.size < (w.alloc (.cells R 38)).heap.size) := Lib.hid (by simp)
  generalize firstP s x = z at *
  generalize beginsP x = i at *
  generalize x.se = se at *
  have HC : Hid (∀ W, Below (w.alloc (.cells R 38)).heap.size (w.alloc (.cells R 38)) W → W.cell? ⟨w.heap.size, 1, none⟩ = some (.int .i64 se) ∧ W.cell? ⟨b, 0, none⟩ = some (.int .i64 s)) := fun W h => ⟨(cell_heap ((h.block _ HL.out).trans HH.out) 1).trans HG1.out, ((BB.out.trans (h.mono BB.out.size)).cell (p := ⟨b, 0, none⟩) hb).trans hw⟩
  clear hw
  cases i with
  | false =>
    go_enter Try.func32, Try.ntmps32
    go_wp2_with (first
      | (refine wpList_load_row rfl 38 _ rfl w.heap.size rfl 38 R (0, 0) _ (by exact HH.out) Try.underlying38 rfl (by rw [HS.out]; exact sizeEvent) ?_)
      | (go_at_call 28; (with_reducible refine (HI.out _).mono ?_); rintro e w1 ⟨rfl, b1⟩; have B1 := Lib.hid b1; clear b1))
    go_ret
    exact ⟨by rw [HT.out]; rfl, BB.out.trans (B1.out.mono BB.out.size)⟩
  | true =>
    go_enter Try.func32, Try.ntmps32
    go_wp2_with (first
      | (refine wpList_load_row rfl 38 _ rfl w.heap.size rfl 38 R (0, 0) _ (by exact HH.out) Try.underlying38 rfl (by rw [HS.out]; exact sizeEvent) ?_)
      | (go_at_call 28; (with_reducible refine (HI.out _).mono ?_); rintro e w1 ⟨rfl, b1⟩; have B1 := Lib.hid b1; clear b1; have c1 := (HC.out w1 B1.out).1; have c2 := (HC.out w1 B1.out).2))
    go_ret
    exact ⟨by rw [HT.out]; rfl, BB.out.trans (B1.out.mono BB.out.size)⟩
/-- The event of a session's first exchange. -/
def firstE (l : List EvV) (s : Int) : Option EvV := l.find? (firstP s)
theorem firstE_none {l : List EvV} {s : Int} (h : ∀ x ∈ l, firstP s x = false) : firstE l s = none := List.find?_eq_none.2 fun x hx => by rw [h x hx]; simp
theorem firstE_some {l : List EvV} {s : Int} {k : Nat} (hk : k < l.length) (h1 : firstP s l[k] = true) (h0 : ∀ x ∈ l.take k, firstP s x = false) : firstE l s = some l[k] := by
  unfold firstE
  have e : l = l.take k ++ l[k] :: l.drop (k + 1) := by rw [← List.drop_eq_getElem_cons hk, List.take_append_drop]
  have hn : (l.take k).find? (firstP s) = none := firstE_none h0
  conv => lhs; rw [e]
  rw [List.find?_append, hn, List.find?_cons_of_pos h1]
  rfl
def rowO : Option EvV → Array Value
  | some x => x.row
  | none => (zeroE 0 0).row
theorem rowO_size (o : Option EvV) : (rowO o).size = 34 := by cases o <;> rfl
theorem rowO_one (o : Option EvV) : (rowO o).all (·.oneCell') = true := by cases o <;> exact EvV.row_one _
theorem results_row_tmp31 {P : Program} {fn : Func} {p u : Tmp} {ty : TypeId} (h : fn.results = #[.cell p ty, .tmp u]) (tmps : Array Value) (w : World) (g : Nat) (t : TypeId) (cs : Array Value) (fr : Nat × Nat) (d : TypeDesc)
    (hp : tmps.getD p undef = .pointer (some ⟨g, 0, none⟩)) (hg : w.heap[g]? = some (.cells cs t fr))
    (hu : P.underlying ty = some d) (hd : (match d with | .struct _ | .array _ _ => true | _ => false) = true) (hi : (P.info? ty).map (·.size) = some cs.size) :
    (results fn tmps).run P w = .ok (.tuple #[.agg cs, tmps.getD u undef]) w := by
  have hp' : tmps[p]?.getD undef = .pointer (some ⟨g, 0, none⟩) := by simpa using hp
  simp [results, h, hp', asAddr, run_loadVar_row w g t ty cs fr d hg hu hd hi]
set_option maxHeartbeats 2000000 in
set_option maxRecDepth 100000 in
theorem firstEx_any {w : World} {v : Value} {l : List EvV} (h : EventsAt w v l) (hl : l.length ≤ maxLen) (s : Int) :
    Calls Try.prog 27 #[v, .int .i64 s] w fun e w' => e = .returned (.tuple #[.agg (rowO (firstE l s)), .bool (firstE l s).isSome]) ∧ Below w.heap.size w w' := by
  obtain ⟨W, hW⟩ : ∃ W, Hid (W = (w.alloc (.cells #[.int .i64 s] 3)).alloc (.cells (zeroE 0 0).row 38)) := ⟨_, Lib.hid rfl⟩
  have BW : Hid (Below w.heap.size w W) := by
    show Below _ _ _
    rw [hW.out]
    exact ((Below.refl _ w).alloc (Nat.le_refl _) _).alloc (by simp) _
  have K1 : Hid (Holds W w.heap.size 3 #[.int .i64 s]) := by
    show Holds _ _ _ _
    rw [hW.out]
    exact first2_row w _ 3 _ rfl
  have K2 : Hid (Holds W (w.heap.size + 1) 38 (zeroE 0 0).row) := by
    show Holds _ _ _ _
    rw [hW.out]
    exact last2_row w _ 38 _ rfl
  have HI := Lib.hid (idxEv_any (p := firstP s) 32 #[.pointer (some ⟨w.heap.size, 0, none⟩)] (fun _ _ => by kernel_rfl) (h.below BW.out) hl fun W' x _ hb => firstEx1_any x s w.heap.size W' (cell_heap ((hb.block _ K1.out.lt).trans K1.out) 0) (Nat.lt_of_lt_of_le K1.out.lt hb.size))
  have HE : Hid (∀ W', Below W.heap.size W W' → Holds W' (w.heap.size + 1) 38 (zeroE 0 0).row) := fun W' hb => (hb.block _ K2.out.lt).trans K2.out
  have HZ : Hid ((zeroE 0 0).row.size = 34 ∧ (zeroE 0 0).row.all (·.oneCell') = true) := ⟨rfl, EvV.row_one _⟩
  have HBl := Lib.hid (fun W' (hb : Below W.heap.size W W') => h.below (BW.out.trans (hb.mono BW.out.size)))
  obtain ⟨ao, cap, rfl, hcw⟩ := h
  have HSt : Hid (∀ W' R, R.size = 34 → Below W.heap.size W W' → (W'.setRow (w.heap.size + 1) R).heap[w.heap.size + 1]? = some (.cells R 38 (0, 0)) ∧ Below w.heap.size w (W'.setRow (w.heap.size + 1) R)) := fun W' R _ hb => ⟨setRow_heap W' _ _ R _ _ (HE.out W' hb), below_setRow (BW.out.trans (hb.mono BW.out.size)) (Nat.le_succ _) R⟩
  rcases idxP_cases (firstP s) l with ⟨hz, h0⟩ | ⟨k, hk, hz, h1, h0⟩
  · rw [firstE_none h0]
    rw [hz] at HI
    have HR : Hid (rowO none = (zeroE 0 0).row ∧ (none : Option EvV).isSome = false) := ⟨rfl, rfl⟩
    generalize rowO none = R0 at *
    generalize (none : Option EvV).isSome = q0 at *
    clear hz h0 K1 K2 HBl
    go_enter Try.func27, Try.ntmps27
    go_upto_region 1 with fail
    change Code.wp _ _ _ _ ((w.alloc (.cells #[.int .i64 s] 3)).alloc (.cells (zeroE 0 0).row 38))
    rw [← hW.out]
    clear hW
    go_wp2_with (first
      | (go_at_call 25; (with_reducible refine HI.out.mono ?_); rintro e w1 ⟨rfl, b1⟩; have B1 := Lib.hid b1; clear b1)
      | (refine wpList_build_as rfl 38 #[] rfl (zeroE 0 0).row (by kernel_rfl) ?_)
      | (refine wpList_store_row rfl 38 _ _ rfl (w.heap.size + 1) (zeroE 0 0).row rfl rfl 38 _ (HE.out w1 B1.out) (by rw [HZ.out.1]; exact sizeEvent) rfl HZ.out.2 ?_))
    refine bodyPost_ret (results_row_tmp31 rfl _ _ (w.heap.size + 1) 38 (zeroE 0 0).row (0, 0) _ rfl (HSt.out w1 _ HZ.out.1 B1.out).1 Try.underlying38 rfl (by rw [HZ.out.1]; exact sizeEvent)) rfl ⟨?_, (HSt.out w1 _ HZ.out.1 B1.out).2⟩
    rw [HR.out.1, HR.out.2]
    rfl
  · rw [firstE_some hk h1 h0]
    rw [hz] at HI
    have HR : Hid (rowO (some l[k]) = (l[k]).row ∧ (some l[k]).isSome = true) := ⟨rfl, rfl⟩
    have HS : Hid ((l[k]).row.size = 34 ∧ (l[k]).row.all (·.oneCell') = true) := ⟨rfl, EvV.row_one _⟩
    have HL : Hid (∃ b off, ao = some ⟨b, off, none⟩ ∧ ∀ W', Below W.heap.size W W' → ∀ j u, (l[k]).row[j]? = some u → W'.cell? ((⟨b, off + k * 34, none⟩ : Addr).add j) = some u) := by
      obtain ⟨b, off, ha, hb, hcell⟩ := hcw (by intro h; simp [h] at hk)
      exact ⟨b, off, ha, fun W' hB j u hj => by
        rw [Addr.add_lit]
        exact ((BW.out.trans (hB.mono BW.out.size)).cell (p := ⟨b, off + k * 34 + j, none⟩) hb).trans (hcell k _ (List.getElem?_eq_getElem hk) j u hj)⟩
    have q1 : ((k : Int) == -1) = false := by rw [beq_eq_false_iff_ne]; omega
    clear hz h0 K1 K2 HBl h1 hcw
    generalize rowO (some l[k]) = R0 at *
    generalize (some l[k]).isSome = q0 at *
    generalize (l[k]).row = R at *
    obtain ⟨b, off, rfl, hld⟩ := HL.out
    have HLd := Lib.hid hld
    clear hld HL
    unfold maxLen at hl
    go_enter Try.func27, Try.ntmps27
    go_upto_region 1 with fail
    change Code.wp _ _ _ _ ((w.alloc (.cells #[.int .i64 s] 3)).alloc (.cells (zeroE 0 0).row 38))
    rw [← hW.out]
    clear hW
    go_wp2_with (first
      | (go_at_call 25; (with_reducible refine HI.out.mono ?_); rintro e w1 ⟨rfl, b1⟩; have B1 := Lib.hid b1; clear b1)
      | (refine wpList_load_cells rfl 38 _ rfl ⟨b, off + k * 34, none⟩ rfl R _ (HLd.out w1 B1.out) Try.underlying38 rfl (by rw [HS.out.1]; exact sizeEvent) ?_)
      | (refine wpList_store_row rfl 38 _ _ rfl (w.heap.size + 1) R rfl rfl 38 _ (HE.out w1 B1.out) (by rw [HS.out.1]; exact sizeEvent) (by rw [HS.out.1]; rfl) HS.out.2 ?_))
    refine bodyPost_ret (results_row_tmp31 rfl _ _ (w.heap.size + 1) 38 R (0, 0) _ rfl (HSt.out w1 _ HS.out.1 B1.out).1 Try.underlying38 rfl (by rw [HS.out.1]; exact sizeEvent)) rfl ⟨?_, (HSt.out w1 _ HS.out.1 B1.out).2⟩
    rw [HR.out.1, HR.out.2]
    rfl
end Go.Proofs.Ytfjbpaigbphbbaa
