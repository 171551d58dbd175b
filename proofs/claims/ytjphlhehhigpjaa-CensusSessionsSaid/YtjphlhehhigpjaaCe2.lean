/- Layer 37: the census of a list. -/
import Derived.Test.YtjphlhehhigpjaaCe1
import Derived.Test.YtjphlhehhigpjaaEvSr
import Derived.Test.YtjphlhehhigpjaaRowN2
import Derived.Test.YtjphlhehhigpjaaRgH
import Derived.Deep.DeepCutAuto
namespace Go.Proofs.Ytjphlhehhigpjaa
open Go.RowKit

def exch37 (x : EvV) : Bool := (x.ki == 1) || (x.ki == 2)
set_option maxHeartbeats 1000000 in
set_option maxRecDepth 100000 in
theorem cnIsEx_any (x : EvV) (w : World) : Calls Try.prog 23 #[.agg x.row] w fun e w' => e = .returned (.bool (exch37 x)) ∧ Below w.heap.size w w' := by
  have HS : Hid (x.row.size = 34) := x.row_size
  have g0 := x.row_ki
  have HT : Hid (exch37 x = ((x.ki == 1) || (x.ki == 2))) := rfl
  obtain ⟨R, hR⟩ : ∃ R, x.row = R := ⟨_, rfl⟩
  rw [hR] at HS g0 ⊢
  clear hR
  have c0 := ((cell_of_row _ w.heap.size 0 R 46 (0, 0) (heap_alloc_new w (.cells R 46))).trans g0)
  generalize exch37 x = z at *
  generalize x.ki = ki at *
  clear g0
  have BB : Hid (Below w.heap.size w (w.alloc (.cells R 46))) := Lib.hid ((Below.refl _ w).alloc (Nat.le_refl _) _)
  by_cases h1 : ki = 1
  · subst h1
    go_enter Try.func23, Try.ntmps23
    go_wp2_with fail
    go_ret
    exact ⟨by rw [HT.out]; first | rfl | (simp), BB.out⟩
  have q1 : (ki == 1) = false := by rw [beq_eq_false_iff_ne]; exact h1
  go_enter Try.func23, Try.ntmps23
  go_wp2_with fail
  go_ret
  exact ⟨by rw [HT.out, q1]; first | rfl | (simp), BB.out⟩
theorem sizeCensus : (Try.prog.info? 29).map (·.size) = some 30 := by kernel_rfl
/-- The numbers of a census of the events below a place; how many events are safe stands last. -/
def cenF (ns : Nat) (l : List EvV) (k : Nat) (i : Nat) : Int := if i = 29 then (ns : Int) else (((l.take k).countP (hitC i) : Nat) : Int)
def cenC (l : List EvV) : Nat → Int := cenF (safesL l l.length).length l l.length
def upC (c : Nat → Int) (p : Nat) : Nat → Int := fun j => if j = p then c p + 1 else c j
theorem cenRow_congr {c d : Nat → Int} (h : ∀ i < 30, c i = d i) : cenRow c = cenRow d := by
  apply Array.ext_getElem?
  intro j
  by_cases hj : j < 30
  · rw [cenRow_get _ hj, cenRow_get _ hj, h j hj]
  · rw [Array.getElem?_eq_none (by rw [cenRow_size]; omega), Array.getElem?_eq_none (by rw [cenRow_size]; omega)]
theorem cenF_bd (ns : Nat) (l : List EvV) (k : Nat) {i : Nat} (h : i ≠ 29) : 0 ≤ cenF ns l k i ∧ cenF ns l k i ≤ l.length := by
  unfold cenF
  rw [if_neg h]
  have h1 : (l.take k).countP (hitC i) ≤ (l.take k).length := List.countP_le_length
  have h2 := List.length_take_le' k l
  omega
theorem cenF_next (ns : Nat) {l : List EvV} {k : Nat} (hk : k < l.length) (i : Nat) : cenF ns l (k + 1) i = cenF ns l k i + (if i ≠ 29 ∧ hitC i l[k] = true then 1 else 0) := by
  unfold cenF
  by_cases h : i = 29
  · rw [if_pos h, if_pos h, if_neg (by simp [h])]; omega
  · rw [if_neg h, if_neg h, List.take_succ_eq_append_getElem hk, List.countP_append, List.countP_cons, List.countP_nil]
    by_cases h2 : hitC i l[k] = true
    · rw [if_pos h2, if_pos ⟨h, h2⟩]; omega
    · rw [if_neg h2, if_neg (fun x => h2 x.2)]; omega
theorem cenRow_one (c : Nat → Int) : (cenRow c).all (·.oneCell') = true := by simp [cenRow, Value.oneCell']
set_option maxRecDepth 100000 in
theorem built0 (ns : Nat) (l : List EvV) : Try.prog.built 29 [(4, .int .i64 (ns : Int))] = some (cenRow (cenF ns l 0)) := by
  have e : cenRow (cenF ns l 0) = #[.int .i64 0, .int .i64 0, .int .i64 0, .int .i64 0, .int .i64 0, .int .i64 0, .int .i64 0, .int .i64 0, .int .i64 0, .int .i64 0, .int .i64 0, .int .i64 0, .int .i64 0, .int .i64 0, .int .i64 0, .int .i64 0, .int .i64 0, .int .i64 0, .int .i64 0, .int .i64 0, .int .i64 0, .int .i64 0, .int .i64 0, .int .i64 0, .int .i64 0, .int .i64 0, .int .i64 0, .int .i64 0, .int .i64 0, .int .i64 (ns : Int)] := by
    simp [cenRow, cenF]
  rw [e]
  rfl
theorem upC_is (c : Nat → Int) (p i : Nat) : upC c p i = c i + if i = p then 1 else 0 := by
  unfold upC
  by_cases h : i = p
  · rw [if_pos h, if_pos h, h]
  · rw [if_neg h, if_neg h]; omega
theorem hit6 {x : EvV} (h : x.ki = 6) {i : Nat} (hi : i < 30) : (i ≠ 29 ∧ hitC i x = true) ↔ (i = 6 ∨ i = 8 + plc 16 x.nu) := by
  have hp := plc_lt (m := 16) (by decide) x.nu
  have e : plc 8 6 = 6 := by decide
  unfold hitC
  rw [h]
  by_cases h1 : i < 8
  · rw [if_pos h1, e]; simp only [beq_iff_eq]; omega
  · rw [if_neg h1]
    by_cases h2 : i < 24
    · rw [if_pos h2]; simp only [beq_self_eq_true, Bool.true_and, beq_iff_eq]; omega
    · rw [if_neg h2]
      by_cases h3 : i < 28
      · rw [if_pos h3]; simp; omega
      · rw [if_neg h3]; simp; omega
theorem hit2 {x : EvV} (h : x.ki = 2) {i : Nat} (hi : i < 30) : (i ≠ 29 ∧ hitC i x = true) ↔ (i = 2 ∨ i = 24 + plc 4 x.dn.me ∨ (i = 28 ∧ x.nu ≠ 0)) := by
  have hp := plc_lt (m := 4) (by decide) x.dn.me
  have e : plc 8 2 = 2 := by decide
  unfold hitC
  rw [h]
  by_cases h1 : i < 8
  · rw [if_pos h1, e]; simp only [beq_iff_eq]; omega
  · rw [if_neg h1]
    by_cases h2 : i < 24
    · rw [if_pos h2]; simp; omega
    · rw [if_neg h2]
      by_cases h3 : i < 28
      · rw [if_pos h3]; simp only [beq_self_eq_true, Bool.true_and, beq_iff_eq]; omega
      · rw [if_neg h3]; simp; omega
theorem hit1 {x : EvV} (h : x.ki = 1) {i : Nat} (hi : i < 30) : (i ≠ 29 ∧ hitC i x = true) ↔ (i = 1 ∨ (i = 28 ∧ x.nu ≠ 0)) := by
  have e : plc 8 1 = 1 := by decide
  unfold hitC
  rw [h]
  by_cases h1 : i < 8
  · rw [if_pos h1, e]; simp only [beq_iff_eq]; omega
  · rw [if_neg h1]
    by_cases h2 : i < 24
    · rw [if_pos h2]; simp; omega
    · rw [if_neg h2]
      by_cases h3 : i < 28
      · rw [if_pos h3]; simp; omega
      · rw [if_neg h3]; simp; omega
theorem hit0 {x : EvV} (h1' : x.ki ≠ 1) (h2' : x.ki ≠ 2) (h6' : x.ki ≠ 6) {i : Nat} (hi : i < 30) : (i ≠ 29 ∧ hitC i x = true) ↔ i = plc 8 x.ki := by
  have hp := plc_lt (m := 8) (by decide) x.ki
  unfold hitC
  by_cases h1 : i < 8
  · rw [if_pos h1]; simp only [beq_iff_eq]; omega
  · rw [if_neg h1]
    by_cases h2 : i < 24
    · rw [if_pos h2]; simp [h6']; omega
    · rw [if_neg h2]
      by_cases h3 : i < 28
      · rw [if_pos h3]; simp [h2']; omega
      · rw [if_neg h3]; simp [h1', h2']; omega
theorem upC_bd {c : Nat → Int} {N : Int} (h : ∀ i, i < 29 → 0 ≤ c i ∧ c i ≤ N) (p : Nat) : ∀ i, i < 29 → 0 ≤ upC c p i ∧ upC c p i ≤ N + 1 := fun i hi => by
  have := h i hi
  rw [upC_is]
  split <;> omega
/-- While a census is made: its block, the result's, the event's. -/
structure CenSt (w : World) (B3 E : Nat) (Z R : Array Value) (W : World) (c : Nat → Int) : Prop where
  below : Below w.heap.size w W
  res : Holds W w.heap.size 29 Z
  cen : Holds W B3 29 (cenRow c)
  ev : Holds W E 46 R
section
variable {w W : World} {B3 E : Nat} {Z R : Array Value} {c : Nat → Int}
theorem CenSt.drew (h : CenSt w B3 E Z R W c) : CenSt w B3 E Z R W.drew c := ⟨h.below.drew, h.res, h.cen, h.ev⟩
theorem CenSt.keep {W' : World} (h : CenSt w B3 E Z R W c) (hb : Below W.heap.size W W') : CenSt w B3 E Z R W' c :=
  ⟨h.below.trans (hb.mono h.below.size), (hb.block _ h.res.lt).trans h.res, (hb.block _ h.cen.lt).trans h.cen, (hb.block _ h.ev.lt).trans h.ev⟩
theorem CenSt.set (h : CenSt w B3 E Z R W c) (h1 : w.heap.size < B3) (h2 : B3 ≠ E) {i : Nat} (hi : i < 30) : CenSt w B3 E Z R (W.setCell ⟨B3, i, none⟩ (.int .i64 (c i + 1))) (upC c i) := by
  have hg : ∀ b, b < W.heap.size → b ≠ B3 → (W.setCell ⟨B3, i, none⟩ (.int .i64 (c i + 1))).heap[b]? = W.heap[b]? := fun b _ hb => Below.heap_setCell W ⟨B3, i, none⟩ _ b hb
  refine ⟨h.below.setCell (Nat.le_of_lt h1) _, ?_, ?_, ?_⟩
  · exact (hg _ h.res.lt (Nat.ne_of_lt h1)).trans h.res
  · have := h.cen.set i (.int .i64 (c i + 1))
    rw [cenRow_set c hi] at this
    exact this
  · exact (hg _ h.ev.lt (fun e => h2 e.symm)).trans h.ev
end
set_option maxHeartbeats 8000000 in
set_option maxRecDepth 100000 in
theorem cnOf_any {w : World} {v : Value} {l : List EvV} (h : EventsAt w v l) (hl : l.length ≤ 900) (ho : ∀ x ∈ l, ∀ u ∈ x.row.toList, CellOk u) :
    Calls Try.prog 8 #[v] w fun e w' => e = .returned (.agg (cenRow (cenC l))) ∧ Below w.heap.size w w' := by
  have HSf : Hid (∀ W, Below w.heap.size w W → Calls Try.prog 21 #[v] W fun e w' => ∃ a c, e = .returned (.slice a (safesL l l.length).length c) ∧ Below W.heap.size W w') := fun W hb => by
    refine Calls.mono (safes_any (h.below hb) (by omega) ho) ?_
    rintro e w' ⟨v', rfl, hi, hb'⟩
    obtain ⟨a, c, rfl, hh⟩ := hi
    exact ⟨a, c, rfl, hb'⟩
  have HEx : Hid (∀ x : EvV, ∀ W, Calls Try.prog 23 #[.agg x.row] W fun e w' => e = .returned (.bool (exch37 x)) ∧ Below W.heap.size W w') := fun x W => cnIsEx_any x W
  obtain ⟨ao, cap, rfl, hc⟩ := h
  have HCl : Hid (l ≠ [] → ∃ b off, ao = some ⟨b, off, none⟩ ∧ Hid (∀ W, Below w.heap.size w W → ∀ k (hk : k < l.length), ∀ j u, (l[k]).row[j]? = some u → W.cell? ((⟨b, off + k * 34, none⟩ : Addr).add j) = some u)) := fun hne => by
    obtain ⟨b, off, e, hb, hcell⟩ := hc hne
    refine ⟨b, off, e, Lib.hid fun W hw k hk j u hj => ?_⟩
    rw [Addr.add_lit]
    exact (hw.cell (p := ⟨b, off + k * 34 + j, none⟩) hb).trans (hcell k _ (List.getElem?_eq_getElem hk) j u hj)
  unfold cenC
  clear hc ho
  generalize (safesL l l.length).length = ns at *
  go_enter Try.func8, Try.ntmps8
  go_upto_region 2 with (first
    | (go_at_call 21; (with_reducible refine (HSf.out _ ((Below.refl _ _).alloc (Nat.le_refl _) _)).mono ?_); rintro e w1 ⟨a1, c1, rfl, b1⟩; obtain ⟨Z, HZ, hZs⟩ : ∃ Z : Array Value, Hid (Holds w1 w.heap.size 29 Z) ∧ Hid (Z.size = 30) := ⟨_, Lib.hid ((b1.block _ (by simp)).trans (Holds.new w 29 _)), Lib.hid rfl⟩; have B1 : Hid (Below w.heap.size w w1) := Lib.hid (((Below.refl w.heap.size w).alloc (Nat.le_refl _) _).trans (b1.mono (by simp))); clear b1)
    | (refine wpList_build_as rfl 29 _ rfl (cenRow (cenF ns l 0)) (by exact built0 ns l) ?_)
    | (refine wpList_store_new rfl 29 _ _ rfl w1.heap.size _ (cenRow (cenF ns l 0)) 29 rfl rfl rfl (by exact sizeCensus) rfl (cenRow_one _) ?_))
  obtain ⟨B3, hB3⟩ : ∃ B3, Hid (B3 = w1.heap.size) := ⟨_, Lib.hid rfl⟩
  have hlt3 : w.heap.size < B3 := by rw [hB3.out]; exact HZ.out.lt
  have HI : Hid (Below w.heap.size w (w1.alloc (.cells (cenRow (cenF ns l 0)) 29)) ∧ Holds (w1.alloc (.cells (cenRow (cenF ns l 0)) 29)) w.heap.size 29 Z ∧ Holds (w1.alloc (.cells (cenRow (cenF ns l 0)) 29)) B3 29 (cenRow (cenF ns l 0))) := by
    refine ⟨B1.out.alloc B1.out.size _, (Below.heap_alloc _ _ _ HZ.out.lt).trans HZ.out, ?_⟩
    show Holds _ B3 _ _
    rw [hB3.out]
    exact Holds.new w1 29 _
  rw [← hB3.out]
  clear hB3 HZ B1
  generalize w1.alloc (.cells (cenRow (cenF ns l 0)) 29) = W2 at *
  go_wp2_with fail
  go_loopw [12] (fun i wr => ∃ k : Nat, k ≤ l.length ∧ i = .int .i64 k ∧ Hid (Below w.heap.size w wr ∧ Holds wr w.heap.size 29 Z ∧ Holds wr B3 29 (cenRow (cenF ns l k)))) (fun i _ => l.length - (intOf i).toNat)
  case atStart => exact ⟨0, Nat.zero_le _, rfl, HI⟩
  case round =>
    obtain ⟨k, hk, rfl, HK⟩ := hrel
    clear HI
    by_cases hlt : k < l.length
    case neg =>
      have hkl : k = l.length := by omega
      subst hkl
      have HZ2 := Lib.hid HK.out.2.1
      have HC2 := Lib.hid HK.out.2.2
      have HD2 : Hid (∀ R, Below w.heap.size w (wr.setRow w.heap.size R)) := fun R => below_setRow HK.out.1 (Nat.le_refl _) R
      clear HK hlt HCl HEx HSf
      have hRR : Hid ((Try.prog.info? 29).map (·.size) = some (cenRow (cenF ns l l.length)).size ∧ Z.size = (cenRow (cenF ns l l.length)).size ∧ (cenRow (cenF ns l l.length)).all (·.oneCell') = true) := ⟨sizeCensus, hZs.out, cenRow_one _⟩
      generalize hRe : cenRow (cenF ns l l.length) = RR at *
      have HRe := Lib.hid hRe
      clear hRe
      go_wp2_with (first
        | (refine wpList_load_row rfl 29 _ rfl B3 rfl 29 RR (0, 0) _ HC2.out Try.underlying29 rfl (by exact hRR.out.1) ?_)
        | (refine wpList_store_row rfl 29 _ _ rfl w.heap.size RR rfl rfl 29 Z HZ2.out (by exact hRR.out.1) hRR.out.2.1 hRR.out.2.2 ?_))
      refine bodyPost_ret (results_cell_row rfl _ _ w.heap.size 29 RR (0, 0) _ rfl (setRow_heap _ _ _ _ _ _ HZ2.out) Try.underlying29 rfl (by exact hRR.out.1)) rfl ⟨by rw [HRe.out], HD2.out _⟩
    obtain ⟨b, off, rfl, HCe⟩ := HCl.out (by rintro rfl; simp at hlt)
    clear HCl HSf
    have hki : (k : Int) < (l.length : Int) := by omega
    have HLk := Lib.hid (HCe.out wr HK.out.1 k hlt)
    have HS5 : Hid ((l[k]).row.size = 34 ∧ (l[k]).row.all (·.oneCell') = true) := ⟨rfl, EvV.row_one _⟩
    have HX : Hid ((l[k]).row[0]? = some (.int .i64 (l[k]).ki) ∧ (l[k]).row[2]? = some (.int .i64 (l[k]).nu) ∧ (l[k]).row[20]? = some (.int .i64 (l[k]).dn.me)) := ⟨rfl, rfl, rfl⟩
    have HEk := Lib.hid (HEx.out l[k])
    have hX : ∀ i, cenF ns l (k + 1) i = cenF ns l k i + (if i ≠ 29 ∧ hitC i l[k] = true then 1 else 0) := fun i => cenF_next ns hlt i
    have HN6 : Hid ((l[k]).ki = 6 → ∀ i < 30, upC (upC (cenF ns l k) 6) (8 + plc 16 (l[k]).nu) i = cenF ns l (k + 1) i) := fun h i hi => by
      have hp := plc_lt (m := 16) (by decide) (l[k]).nu
      rw [hX, upC_is, upC_is]; simp only [hit6 h hi]
      by_cases a : i = 6 <;> by_cases b : i = 8 + plc 16 (l[k]).nu <;> simp [a, b] <;> omega
    have HN2 : Hid ((l[k]).ki = 2 → ((l[k]).nu = 0 → ∀ i < 30, upC (upC (cenF ns l k) 2) (24 + plc 4 (l[k]).dn.me) i = cenF ns l (k + 1) i) ∧ ((l[k]).nu ≠ 0 → ∀ i < 30, upC (upC (upC (cenF ns l k) 2) (24 + plc 4 (l[k]).dn.me)) 28 i = cenF ns l (k + 1) i)) := fun h => by
      have hp := plc_lt (m := 4) (by decide) (l[k]).dn.me
      refine ⟨fun hn i hi => ?_, fun hn i hi => ?_⟩
      · rw [hX, upC_is, upC_is]; simp only [hit2 h hi, hn]
        by_cases a : i = 2 <;> by_cases b : i = 24 + plc 4 (l[k]).dn.me <;> simp [a, b] <;> omega
      · rw [hX, upC_is, upC_is, upC_is]; simp only [hit2 h hi]
        by_cases a : i = 2 <;> by_cases b : i = 24 + plc 4 (l[k]).dn.me <;> by_cases c : i = 28 <;> simp [a, b, c, hn] <;> omega
    have HN1 : Hid ((l[k]).ki = 1 → ((l[k]).nu = 0 → ∀ i < 30, upC (cenF ns l k) 1 i = cenF ns l (k + 1) i) ∧ ((l[k]).nu ≠ 0 → ∀ i < 30, upC (upC (cenF ns l k) 1) 28 i = cenF ns l (k + 1) i)) := fun h => by
      refine ⟨fun hn i hi => ?_, fun hn i hi => ?_⟩
      · rw [hX, upC_is]; simp only [hit1 h hi, hn]
        by_cases a : i = 1 <;> simp [a]
      · rw [hX, upC_is, upC_is]; simp only [hit1 h hi]
        by_cases a : i = 1 <;> by_cases c : i = 28 <;> simp [a, c, hn] <;> omega
    have HN0 : Hid ((l[k]).ki ≠ 1 → (l[k]).ki ≠ 2 → (l[k]).ki ≠ 6 → ∀ i < 30, upC (cenF ns l k) (plc 8 (l[k]).ki) i = cenF ns l (k + 1) i) := fun h1 h2 h6 i hi => by
      rw [hX, upC_is]; simp only [hit0 h1 h2 h6 hi]
    clear hX
    have HBd : Hid (∀ i, i < 29 → 0 ≤ cenF ns l k i ∧ cenF ns l k i ≤ 900) := fun i hi => by have := cenF_bd ns l k (i := i) (by omega); omega
    clear HCe HEx
    generalize (l[k]).row = R5 at *
    go_upto_region 5 with (first
      | (refine wpList_load_cells rfl 46 _ rfl ⟨b, off + k * 34, none⟩ rfl R5 _ HLk.out Try.underlying46 rfl (by rw [HS5.out.1]; exact sizeEvent) ?_)
      | (refine wpList_store_new rfl 46 _ _ rfl wr.heap.size _ R5 46 rfl rfl rfl (by rw [HS5.out.1]; exact sizeEvent) (by rw [HS5.out.1]; rfl) HS5.out.2 ?_))
    obtain ⟨E5, hE5⟩ : ∃ E5, Hid (E5 = wr.heap.size) := ⟨_, Lib.hid rfl⟩
    have hB3E : B3 ≠ E5 := by rw [hE5.out]; exact Nat.ne_of_lt HK.out.2.2.lt
    have HSt : Hid (CenSt w B3 E5 Z R5 (wr.alloc (.cells R5 46)) (cenF ns l k)) := by
      refine Lib.hid ⟨HK.out.1.alloc HK.out.1.size _, (Below.heap_alloc _ _ _ HK.out.2.1.lt).trans HK.out.2.1, (Below.heap_alloc _ _ _ HK.out.2.2.lt).trans HK.out.2.2, ?_⟩
      show Holds _ E5 _ _
      rw [hE5.out]; exact Holds.new wr 46 R5
    rw [← hE5.out]
    have HR5 : Hid (R5.size = 34) := HS5.out.1
    clear hE5 HLk HS5 HK
    generalize wr.alloc (.cells R5 46) = W5 at *
    have HRd : Hid (∀ W c, CenSt w B3 E5 Z R5 W c → W.cell? ⟨E5, 0, none⟩ = some (.int .i64 (l[k]).ki) ∧ W.cell? ⟨E5, 2, none⟩ = some (.int .i64 (l[k]).nu) ∧ W.cell? ⟨E5, 20, none⟩ = some (.int .i64 (l[k]).dn.me) ∧ W.cell? ⟨B3, 28, none⟩ = some (.int .i64 (c 28)) ∧ W.frozen? ⟨B3, 28, none⟩ = false) := fun W c h => ⟨(h.ev.cell 0).trans HX.out.1, (h.ev.cell 2).trans HX.out.2.1, (h.ev.cell 20).trans HX.out.2.2, (h.cen.cell 28).trans (cenRow_get c (by decide)), h.cen.frozen 28⟩
    have HCt : Hid (∀ (off m : Nat) (n : Int) W c, 0 < m → off + m ≤ 29 → CenSt w B3 E5 Z R5 W c → (∀ i, i < 29 → 0 ≤ c i ∧ c i ≤ 910) → Calls Try.prog 22 #[.slice (some ⟨B3, off, none⟩) m m, .int .i64 n] W fun e w' => e = .returned (.tuple #[]) ∧ CenSt w B3 E5 Z R5 w' (upC c (off + plc m n))) := fun off m n W c hm ho hs hb => by
      have hp := plc_lt hm n
      have := hb (off + plc m n) (by omega)
      refine (count_any hs.cen hm n (c (off + plc m n)) (cenRow_get c (by omega)) this.1 (by omega) (by omega)).mono ?_
      rintro e w' ⟨rfl, rfl⟩
      exact ⟨rfl, hs.set hlt3 hB3E (by omega)⟩
    clear HX
    have HFin : Hid (∀ W c, CenSt w B3 E5 Z R5 W c → (∀ i < 30, c i = cenF ns l (k + 1) i) → Below w.heap.size w W ∧ Holds W w.heap.size 29 Z ∧ Holds W B3 29 (cenRow (cenF ns l (k + 1)))) := fun W c h e => ⟨h.below, h.res, by rw [← cenRow_congr e]; exact h.cen⟩
    have HL46 : Hid (∀ W c, CenSt w B3 E5 Z R5 W c → W.heap[E5]? = some (.cells R5 46 (0, 0)) ∧ (Try.prog.info? 46).map (·.size) = some R5.size) := fun W c h => ⟨h.ev, by rw [HR5.out]; exact sizeEvent⟩
    have HSet : Hid (∀ W c, CenSt w B3 E5 Z R5 W c → CenSt w B3 E5 Z R5 (W.setCell ⟨B3, 28, none⟩ (.int .i64 (c 28 + 1))) (upC c 28)) := fun W c h => h.set hlt3 hB3E (by decide)
    have HEv : Hid (∀ W c, CenSt w B3 E5 Z R5 W c → ∀ W', Below W.heap.size W W' → CenSt w B3 E5 Z R5 W' c) := fun W c h W' hb => h.keep hb
    have HC5 := Lib.hid (fun W hs => HCt.out 0 8 (l[k]).ki W (cenF ns l k) (by omega) (by omega) hs (fun i hi => by have := HBd.out i hi; omega))
    have HC6 := Lib.hid (fun W p hs => HCt.out 8 16 (l[k]).nu W (upC (cenF ns l k) p) (by omega) (by omega) hs (fun i hi => by have := upC_bd HBd.out p i hi; omega))
    have HC2 := Lib.hid (fun W p hs => HCt.out 24 4 (l[k]).dn.me W (upC (cenF ns l k) p) (by omega) (by omega) hs (fun i hi => by have := upC_bd HBd.out p i hi; omega))
    have HB1 := Lib.hid (fun p => upC_bd HBd.out p 28 (by omega))
    have HB2 := Lib.hid (fun p q => upC_bd (upC_bd HBd.out p) q 28 (by omega))
    have HXx : Hid (exch37 l[k] = (((l[k]).ki == 1) || ((l[k]).ki == 2))) := rfl
    clear HCt HBd
    simp only [Nat.zero_add] at HC5
    generalize exch37 l[k] = ex at *
    generalize hki : (l[k]).ki = ki at *
    have HKi := Lib.hid hki
    clear hki HKi
    generalize (l[k]).nu = nu at *
    generalize (l[k]).dn.me = me at *
    generalize cenF ns l k = C at *
    obtain ⟨Sp, hSp⟩ : ∃ Sp : World → Prop, Hid (∀ w', Sp w' ↔ (w'.cell? ⟨E5, 0, none⟩ = some (.int .i64 ki))) := ⟨_, Lib.hid fun _ => Iff.rfl⟩
    refine wp_region_held_gen Sp (by kernel_rfl) ((hSp.out _).2 ((HRd.out _ _ HSt.out.drew).1)) ?_
    have hHeld : Sp _ := (hSp.out (World.drew _)).2 ((HRd.out _ _ HSt.out.drew).1)
    intro O hO
    refine held_read hO (i := 0) rfl rfl (by kernel_rfl) (fun _ _ _ _ h => h) ?_ hHeld ?_ ?_
    rotate_left 1
    · (intro w hSw; have hSw := (hSp.out _).1 hSw; go_simp; (try with_reducible rfl))
    try simp only [Act.put, List.setIfInBounds_toArray, List.set_cons_zero, List.set_cons_succ]
    refine held_read hO (i := 1) rfl rfl (by kernel_rfl) (fun _ _ _ _ h => h) ?_ hHeld ?_ ?_
    rotate_left 1
    · (intro w hSw; have hSw := (hSp.out _).1 hSw; go_simp; (try with_reducible rfl))
    try simp only [Act.put, List.setIfInBounds_toArray, List.set_cons_zero, List.set_cons_succ]
    refine held_read hO (i := 2) rfl rfl (by kernel_rfl) (fun _ _ _ _ h => h) ?_ hHeld ?_ ?_
    rotate_left 1
    · (intro w hSw; have hSw := (hSp.out _).1 hSw; go_simp; (try with_reducible rfl))
    try simp only [Act.put, List.setIfInBounds_toArray, List.set_cons_zero, List.set_cons_succ]
    refine held_read hO (i := 3) rfl rfl (by kernel_rfl) (fun _ _ _ _ h => h) ?_ hHeld ?_ ?_
    rotate_left 1
    · (intro w hSw; have hSw := (hSp.out _).1 hSw; go_simp; (try with_reducible rfl))
    try simp only [Act.put, List.setIfInBounds_toArray, List.set_cons_zero, List.set_cons_succ]
    refine held_step hO (i := 4) rfl rfl (by kernel_rfl) (fun K hK => ?_)
    go_simp
    go_at_call 22
    with_reducible refine (HC5.out _ HSt.out.drew).mono ?_
    rintro e w6 ⟨rfl, s_⟩
    have HSw6 := Lib.hid s_
    clear s_
    go_wp2_with fail
    clear hHeld
    have hHeld : Sp _ := (hSp.out _).2 (HRd.out _ _ HSw6.out).1
    refine hK.out _ _ hHeld ?_
    clear hK K
    try simp only [Act.put, List.setIfInBounds_toArray, List.set_cons_zero, List.set_cons_succ]
    refine held_done hO (by kernel_rfl) ?_
    clear hO O
    clear hHeld hSp Sp HC5 HSt
    have x0 := (HRd.out _ _ HSw6.out).1
    by_cases h6 : ki = 6
    · subst h6
      have HF := Lib.hid (HN6.out rfl)
      have e6 : plc 8 6 = 6 := by decide
      rw [e6] at HSw6
      have HC7 := Lib.hid (fun W hs => HC6.out W 6 hs)
      have HXf : Hid (ex = false) := HXx.out.trans rfl
      have HE0 := HEk
      rw [HXf.out] at HE0
      clear HN6 HN2 HN1 HN0 HC6 HC2 HXx HXf HEk e6 HB1 HB2
      go_upto_region 8 with fail
      obtain ⟨Sp, hSp⟩ : ∃ Sp : World → Prop, Hid (∀ w', Sp w' ↔ (w'.cell? ⟨E5, 2, none⟩ = some (.int .i64 nu))) := ⟨_, Lib.hid fun _ => Iff.rfl⟩
      refine wp_region_held_gen Sp (by kernel_rfl) ((hSp.out _).2 ((HRd.out _ _ HSw6.out.drew).2.1)) ?_
      have hHeld : Sp _ := (hSp.out (World.drew _)).2 ((HRd.out _ _ HSw6.out.drew).2.1)
      intro O hO
      refine held_read hO (i := 0) rfl rfl (by kernel_rfl) (fun _ _ _ _ h => h) ?_ hHeld ?_ ?_
      rotate_left 1
      · (intro w hSw; have hSw := (hSp.out _).1 hSw; go_simp; (try with_reducible rfl))
      try simp only [Act.put, List.setIfInBounds_toArray, List.set_cons_zero, List.set_cons_succ]
      refine held_read hO (i := 1) rfl rfl (by kernel_rfl) (fun _ _ _ _ h => h) ?_ hHeld ?_ ?_
      rotate_left 1
      · (intro w hSw; have hSw := (hSp.out _).1 hSw; go_simp; (try with_reducible rfl))
      try simp only [Act.put, List.setIfInBounds_toArray, List.set_cons_zero, List.set_cons_succ]
      refine held_read hO (i := 2) rfl rfl (by kernel_rfl) (fun _ _ _ _ h => h) ?_ hHeld ?_ ?_
      rotate_left 1
      · (intro w hSw; have hSw := (hSp.out _).1 hSw; go_simp; (try with_reducible rfl))
      try simp only [Act.put, List.setIfInBounds_toArray, List.set_cons_zero, List.set_cons_succ]
      refine held_read hO (i := 3) rfl rfl (by kernel_rfl) (fun _ _ _ _ h => h) ?_ hHeld ?_ ?_
      rotate_left 1
      · (intro w hSw; have hSw := (hSp.out _).1 hSw; go_simp; (try with_reducible rfl))
      try simp only [Act.put, List.setIfInBounds_toArray, List.set_cons_zero, List.set_cons_succ]
      refine held_step hO (i := 4) rfl rfl (by kernel_rfl) (fun K hK => ?_)
      go_simp
      go_at_call 22
      with_reducible refine (HC7.out _ HSw6.out.drew).mono ?_
      rintro e w8 ⟨rfl, s_⟩
      have HSw8 := Lib.hid s_
      clear s_
      go_wp2_with fail
      clear hHeld
      have hHeld : Sp _ := (hSp.out _).2 (HRd.out _ _ HSw8.out).2.1
      refine hK.out _ _ hHeld ?_
      clear hK K
      try simp only [Act.put, List.setIfInBounds_toArray, List.set_cons_zero, List.set_cons_succ]
      refine held_done hO (by kernel_rfl) ?_
      clear hO O
      clear hHeld hSp Sp HC7 HSw6 x0
      have x0 := (HRd.out _ _ HSw8.out).1
      go_wp2_with (first
        | (refine wpList_load_row rfl 46 _ rfl E5 rfl 46 R5 (0, 0) _ (HL46.out _ _ HSw8.out).1 Try.underlying46 rfl (HL46.out _ _ HSw8.out).2 ?_)
        | (go_at_call 23; (with_reducible refine (HE0.out _).mono ?_); rintro e w9 ⟨rfl, b9⟩; have HS9 := Lib.hid (HEv.out _ _ HSw8.out _ b9); clear b9))
      go_roundw
      case rel => exact ⟨k + 1, by omega, by go_num, Lib.hid (HFin.out _ _ HS9.out HF.out)⟩
      case measure => simp [intOf]; omega
    have q6 : (ki == 6) = false := beq_eq_false_iff_ne.2 h6
    by_cases h2 : ki = 2
    · subst h2
      obtain ⟨F0, F1⟩ := HN2.out rfl
      have HF0 := Lib.hid F0
      have HF1 := Lib.hid F1
      have e2 : plc 8 2 = 2 := by decide
      rw [e2] at HSw6
      have HC7 := Lib.hid (fun W hs => HC2.out W 2 hs)
      have HXf : Hid (ex = true) := HXx.out.trans rfl
      have HE0 := HEk
      rw [HXf.out] at HE0
      have HBb := Lib.hid (HB2.out 2 (24 + plc 4 me))
      clear F0 F1 HN6 HN2 HN1 HN0 HC6 HC2 HXx HXf HEk e2 HB1 HB2
      go_upto_region 10 with fail
      obtain ⟨Sp, hSp⟩ : ∃ Sp : World → Prop, Hid (∀ w', Sp w' ↔ (w'.cell? ⟨E5, 20, none⟩ = some (.int .i64 me))) := ⟨_, Lib.hid fun _ => Iff.rfl⟩
      refine wp_region_held_gen Sp (by kernel_rfl) ((hSp.out _).2 ((HRd.out _ _ HSw6.out.drew).2.2.1)) ?_
      have hHeld : Sp _ := (hSp.out (World.drew _)).2 ((HRd.out _ _ HSw6.out.drew).2.2.1)
      intro O hO
      refine held_read hO (i := 0) rfl rfl (by kernel_rfl) (fun _ _ _ _ h => h) ?_ hHeld ?_ ?_
      rotate_left 1
      · (intro w hSw; have hSw := (hSp.out _).1 hSw; go_simp; (try with_reducible rfl))
      try simp only [Act.put, List.setIfInBounds_toArray, List.set_cons_zero, List.set_cons_succ]
      refine held_read hO (i := 1) rfl rfl (by kernel_rfl) (fun _ _ _ _ h => h) ?_ hHeld ?_ ?_
      rotate_left 1
      · (intro w hSw; have hSw := (hSp.out _).1 hSw; go_simp; (try with_reducible rfl))
      try simp only [Act.put, List.setIfInBounds_toArray, List.set_cons_zero, List.set_cons_succ]
      refine held_read hO (i := 2) rfl rfl (by kernel_rfl) (fun _ _ _ _ h => h) ?_ hHeld ?_ ?_
      rotate_left 1
      · (intro w hSw; have hSw := (hSp.out _).1 hSw; go_simp; (try with_reducible rfl))
      try simp only [Act.put, List.setIfInBounds_toArray, List.set_cons_zero, List.set_cons_succ]
      refine held_read hO (i := 3) rfl rfl (by kernel_rfl) (fun _ _ _ _ h => h) ?_ hHeld ?_ ?_
      rotate_left 1
      · (intro w hSw; have hSw := (hSp.out _).1 hSw; go_simp; (try with_reducible rfl))
      try simp only [Act.put, List.setIfInBounds_toArray, List.set_cons_zero, List.set_cons_succ]
      refine held_read hO (i := 4) rfl rfl (by kernel_rfl) (fun _ _ _ _ h => h) ?_ hHeld ?_ ?_
      rotate_left 1
      · (intro w hSw; have hSw := (hSp.out _).1 hSw; go_simp; (try with_reducible rfl))
      try simp only [Act.put, List.setIfInBounds_toArray, List.set_cons_zero, List.set_cons_succ]
      refine held_step hO (i := 5) rfl rfl (by kernel_rfl) (fun K hK => ?_)
      go_simp
      go_at_call 22
      with_reducible refine (HC7.out _ HSw6.out.drew).mono ?_
      rintro e w8 ⟨rfl, s_⟩
      have HSw8 := Lib.hid s_
      clear s_
      go_wp2_with fail
      clear hHeld
      have hHeld : Sp _ := (hSp.out _).2 (HRd.out _ _ HSw8.out).2.2.1
      refine hK.out _ _ hHeld ?_
      clear hK K
      try simp only [Act.put, List.setIfInBounds_toArray, List.set_cons_zero, List.set_cons_succ]
      refine held_done hO (by kernel_rfl) ?_
      clear hO O
      clear hHeld hSp Sp HC7 HSw6 x0
      generalize upC (upC C 2) (24 + plc 4 me) = C2 at *
      obtain ⟨x0, x2, _, x28, z28⟩ := HRd.out _ _ HSw8.out
      by_cases hn : nu = 0
      · have qn : (nu != 0) = false := by rw [hn]; rfl
        have HF := Lib.hid (HF0.out hn)
        clear HF0 HF1 HBb
        go_wp2_with (first
          | (refine wpList_load_row rfl 46 _ rfl E5 rfl 46 R5 (0, 0) _ (HL46.out _ _ HSw8.out).1 Try.underlying46 rfl (HL46.out _ _ HSw8.out).2 ?_)
          | (go_at_call 23; (with_reducible refine (HE0.out _).mono ?_); rintro e w9 ⟨rfl, b9⟩; have HS9 := Lib.hid (HEv.out _ _ HSw8.out _ b9); obtain ⟨y0, y2, _, y28, t28⟩ := HRd.out _ _ HS9.out; clear b9))
        go_roundw
        case rel => exact ⟨k + 1, by omega, by go_num, Lib.hid (HFin.out _ _ HS9.out HF.out)⟩
        case measure => simp [intOf]; omega
      · have qn : (nu != 0) = true := by rw [bne, beq_eq_false_iff_ne.2 hn]; rfl
        have HF := Lib.hid (HF1.out hn)
        have bb := HBb.out
        clear HF0 HF1 HBb hn
        go_wp2_with (first
          | (refine wpList_load_row rfl 46 _ rfl E5 rfl 46 R5 (0, 0) _ (HL46.out _ _ HSw8.out).1 Try.underlying46 rfl (HL46.out _ _ HSw8.out).2 ?_)
          | (go_at_call 23; (with_reducible refine (HE0.out _).mono ?_); rintro e w9 ⟨rfl, b9⟩; have HS9 := Lib.hid (HEv.out _ _ HSw8.out _ b9); obtain ⟨y0, y2, _, y28, t28⟩ := HRd.out _ _ HS9.out; clear b9))
        go_roundw
        case rel => exact ⟨k + 1, by omega, by go_num, Lib.hid (HFin.out _ _ (HSet.out _ _ HS9.out) HF.out)⟩
        case measure => simp [intOf]; omega
    have q2 : (ki == 2) = false := beq_eq_false_iff_ne.2 h2
    by_cases h1 : ki = 1
    · subst h1
      obtain ⟨F0, F1⟩ := HN1.out rfl
      have HF0 := Lib.hid F0
      have HF1 := Lib.hid F1
      have e1 : plc 8 1 = 1 := by decide
      rw [e1] at HSw6
      have HXf : Hid (ex = true) := HXx.out.trans rfl
      have HE0 := HEk
      rw [HXf.out] at HE0
      have HBb := Lib.hid (HB1.out 1)
      clear F0 F1 HN6 HN2 HN1 HN0 HC6 HC2 HXx HXf HEk e1 HB1 HB2
      generalize upC C 1 = C2 at *
      obtain ⟨_, x2, _, x28, z28⟩ := HRd.out _ _ HSw6.out
      by_cases hn : nu = 0
      · have qn : (nu != 0) = false := by rw [hn]; rfl
        have HF := Lib.hid (HF0.out hn)
        clear HF0 HF1 HBb
        go_wp2_with (first
          | (refine wpList_load_row rfl 46 _ rfl E5 rfl 46 R5 (0, 0) _ (HL46.out _ _ HSw6.out).1 Try.underlying46 rfl (HL46.out _ _ HSw6.out).2 ?_)
          | (go_at_call 23; (with_reducible refine (HE0.out _).mono ?_); rintro e w9 ⟨rfl, b9⟩; have HS9 := Lib.hid (HEv.out _ _ HSw6.out _ b9); obtain ⟨y0, y2, _, y28, t28⟩ := HRd.out _ _ HS9.out; clear b9))
        go_roundw
        case rel => exact ⟨k + 1, by omega, by go_num, Lib.hid (HFin.out _ _ HS9.out HF.out)⟩
        case measure => simp [intOf]; omega
      · have qn : (nu != 0) = true := by rw [bne, beq_eq_false_iff_ne.2 hn]; rfl
        have HF := Lib.hid (HF1.out hn)
        have bb := HBb.out
        clear HF0 HF1 HBb hn
        go_wp2_with (first
          | (refine wpList_load_row rfl 46 _ rfl E5 rfl 46 R5 (0, 0) _ (HL46.out _ _ HSw6.out).1 Try.underlying46 rfl (HL46.out _ _ HSw6.out).2 ?_)
          | (go_at_call 23; (with_reducible refine (HE0.out _).mono ?_); rintro e w9 ⟨rfl, b9⟩; have HS9 := Lib.hid (HEv.out _ _ HSw6.out _ b9); obtain ⟨y0, y2, _, y28, t28⟩ := HRd.out _ _ HS9.out; clear b9))
        go_roundw
        case rel => exact ⟨k + 1, by omega, by go_num, Lib.hid (HFin.out _ _ (HSet.out _ _ HS9.out) HF.out)⟩
        case measure => simp [intOf]; omega
    have q1 : (ki == 1) = false := beq_eq_false_iff_ne.2 h1
    have HF := Lib.hid (HN0.out h1 h2 h6)
    have HXf : Hid (ex = false) := HXx.out.trans (by rw [q1, q2]; rfl)
    have HE0 := HEk
    rw [HXf.out] at HE0
    clear HN6 HN2 HN1 HN0 HC6 HC2 HXx HXf HEk HB1 HB2 h1 h2 h6
    go_wp2_with (first
      | (refine wpList_load_row rfl 46 _ rfl E5 rfl 46 R5 (0, 0) _ (HL46.out _ _ HSw6.out).1 Try.underlying46 rfl (HL46.out _ _ HSw6.out).2 ?_)
      | (go_at_call 23; (with_reducible refine (HE0.out _).mono ?_); rintro e w9 ⟨rfl, b9⟩; have HS9 := Lib.hid (HEv.out _ _ HSw6.out _ b9); clear b9))
    go_roundw
    case rel => exact ⟨k + 1, by omega, by go_num, Lib.hid (HFin.out _ _ HS9.out HF.out)⟩
    case measure => simp [intOf]; omega
end Go.Proofs.Ytjphlhehhigpjaa
