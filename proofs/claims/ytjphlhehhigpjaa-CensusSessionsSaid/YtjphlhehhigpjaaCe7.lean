/- Layer 37: the page's example. -/
import Derived.Test.YtjphlhehhigpjaaCe6
namespace Go.Proofs.Ytjphlhehhigpjaa
open Go.RowKit

def ev6 : EvV := { zeroE 6 0 with nu := 2 }
theorem events_one37 {w : World} {b : Nat} {t : TypeId} {x : EvV} (h : Holds w b t x.row) : EventsAt w (.slice (some ⟨b, 0, none⟩) 1 1) [x] := ⟨_, _, rfl, fun _ => ⟨_, 0, rfl, h.lt, fun k z hk j u hj => by
  match k, hk with
  | 0, hk =>
    simp at hk; subst hk
    rw [h.cell, ← hj]; congr 1; omega
  | k + 1, hk => simp at hk⟩⟩
theorem parts_one37 (a : Act) (x : Operand) (u : Value) (hx : a.eval x = u) : ((#[(0, x)] : Array (Nat × Operand)).map fun (i, x) => (i, a.eval x)).toList = [(0, u)] := by simp [hx]
set_option maxRecDepth 100000 in
theorem fills_e6 : Instr.fill (fun i => some (i * 34, 34)) ((Array.range (1 * 34)).map ((Value.agg (zeroE 0 0).row).cells[· % (Value.agg (zeroE 0 0).row).cells.size]!)) [(0, .agg ev6.row)] = some ev6.row := by kernel_rfl
theorem ev6_ok : ∀ u ∈ ev6.row.toList, CellOk u := by
  intro u hu
  have h : ∀ u ∈ ev6.row.toList, (match u with | .int k n => (Lit.int k n).wf | .string s => decide (s.size ≤ maxLen) | _ => true) = true := by
    have : (ev6.row.toList.all fun u => match u with | .int k n => (Lit.int k n).wf | .string s => decide (s.size ≤ maxLen) | _ => true) = true := by kernel_rfl
    exact List.all_eq_true.1 this
  have h2 := h u hu
  cases u <;> simp_all [CellOk]
theorem cen_e6 : cenC [ev6] 6 = 1 ∧ cenC [ev6] 10 = 1 ∧ cenC [ev6] 0 = 0 := by refine ⟨?_, ?_, ?_⟩ <;> kernel_rfl
set_option maxHeartbeats 4000000 in
set_option maxRecDepth 100000 in
theorem awake37_any (w : World) : Calls Try.prog 7 #[] w fun e w' => e = .returned (.bool true) ∧ Below w.heap.size w w' := by
  obtain ⟨ie, hie, hsz, hz⟩ := infoEvent'
  have F2 : Hid (∀ Z, ie.zero = some Z → Instr.fill (fun i => some (i * ie.size, ie.size)) ((Array.range (1 * ie.size)).map (Z.cells[· % Z.cells.size]!)) [(0, .agg ev6.row)] = some ev6.row) := fun Z hZ => by
    rw [hz] at hZ; obtain rfl := Option.some.inj hZ
    rw [hsz]; exact fills_e6
  have HI := Lib.hid hie
  have HZ := Lib.hid hz
  have S1 : Hid (∀ (W : World) (D : Array Value), D = ev6.row → Calls Try.prog 8 #[.slice (some ⟨W.heap.size, 0, none⟩) 1 1] (W.alloc (.cells D 46)) fun e w' => e = .returned (.agg (cenRow (cenC [ev6]))) ∧ Below W.heap.size W w') := fun W D hD => by
    have b0 : Below W.heap.size W (W.alloc (.cells D 46)) := (Below.refl _ W).alloc (Nat.le_refl _) _
    have := cnOf_any (events_one37 (x := ev6) (by rw [← hD]; exact Holds.new W 46 D)) (by decide) (by intro x hx; simp at hx; subst hx; exact ev6_ok)
    exact this.mono fun e w' ⟨h1, h2⟩ => ⟨h1, b0.trans (h2.mono b0.size)⟩
  have S2 : Hid (∀ W, Calls Try.prog 12 #[.agg (cenRow (cenC [ev6]))] W fun e w' => e = .returned .nilIface ∧ Below W.heap.size W w') := fun W => (cnCheck_any W (cenC [ev6]) (fun i _ => by have := cenC_bd [ev6] i; have e : [ev6].length = 1 := rfl; rw [e] at this; omega)).mono fun e w' ⟨v', h1, h2, h3⟩ => by
    rcases h2 with ⟨_, h⟩ | ⟨h, _⟩
    · exact ⟨by rw [h1, h], h3⟩
    · exact absurd (by rw [cenC_chk]; rfl) h
  have Z1 : Hid (ev6.row.size = 34 ∧ ev6.row.all (·.oneCell') = true) := ⟨rfl, EvV.row_one _⟩
  have HQ : Hid (¬ 1 * ie.size > 2 ^ 24 ∧ ¬ 1 * ie.size = 0) := ⟨by rw [hsz]; decide, by rw [hsz]; decide⟩
  have HG : Hid ((cenRow (cenC [ev6]))[6]? = some (.int .i64 1) ∧ (cenRow (cenC [ev6]))[10]? = some (.int .i64 1) ∧ (cenRow (cenC [ev6]))[0]? = some (.int .i64 0)) := ⟨by rw [cenRow_get _ (by decide), cen_e6.1], by rw [cenRow_get _ (by decide), cen_e6.2.1], by rw [cenRow_get _ (by decide), cen_e6.2.2]⟩
  have HRR : Hid ((Try.prog.info? 29).map (·.size) = some (cenRow (cenC [ev6])).size ∧ (cenRow (cenC [ev6])).size = 30 ∧ (cenRow (cenC [ev6])).all (·.oneCell') = true) := ⟨sizeCensus, rfl, cenRow_one _⟩
  clear hie hz hsz
  generalize cenRow (cenC [ev6]) = RR at *
  generalize hT : ev6.row = T at *
  have HT : Hid (ev6.row = T) := hT
  clear hT
  go_enter Try.func7, Try.ntmps7
  go_upto_region 2 with (first
    | (refine wpList_build_as rfl 46 #[(0, .const (.int .i64 6)), (2, .const (.int .i64 2))] rfl ev6.row (by kernel_rfl) ?_; rw [HT.out])
    | (refine wpList_buildSlice rfl 22 46 1 _ rfl T ie _ Try.underlying22 HI.out HZ.out HQ.out.1 HQ.out.2 (by rw [parts_one37 _ _ _ rfl]; exact F2.out _ HZ.out) ?_)
    | (go_at_call 8; (with_reducible refine (S1.out _ _ rfl).mono ?_); rintro e w1 ⟨rfl, b1⟩; have B1 := Lib.hid b1; clear b1)
    | (refine wpList_store_new rfl 29 _ _ rfl w1.heap.size _ RR 29 rfl rfl rfl HRR.out.1 (by rw [HRR.out.2.1]; rfl) HRR.out.2.2 ?_))
  have HB : Hid (Below w.heap.size w (w1.alloc (.cells RR 29))) := Lib.hid (B1.out.alloc B1.out.size _)
  have HA : Hid (Holds (w1.alloc (.cells RR 29)) w1.heap.size 29 RR) := Lib.hid (Holds.new w1 _ _)
  obtain ⟨E, hE⟩ : ∃ E, Hid (E = w1.heap.size) := ⟨_, Lib.hid rfl⟩
  rw [← hE.out] at HA ⊢
  clear hE
  generalize w1.alloc (.cells RR 29) = W at *
  have x6 := (HA.out.cell 6).trans HG.out.1
  have x10 := (HA.out.cell 10).trans HG.out.2.1
  have x0 := (HA.out.cell 0).trans HG.out.2.2
  have tok : Hid True := trivial
  clear HG B1 S1 F2 HI HZ HQ
  go_wp2_with (first
    | (clear tok; refine wpList_load_row_on rfl 29 _ rfl E rfl 29 RR (0, 0) _ (by exact HA.out) Try.underlying29 rfl (by exact HRR.out.1) ?_)
    | (go_at_call 12; (with_reducible refine (S2.out _).mono ?_); rintro e w2 ⟨rfl, b2⟩; have B2 := Lib.hid (HB.out.trans (b2.mono HB.out.size)); clear b2))
  go_ret
  exact ⟨rfl, B2.out⟩
end Go.Proofs.Ytjphlhehhigpjaa
