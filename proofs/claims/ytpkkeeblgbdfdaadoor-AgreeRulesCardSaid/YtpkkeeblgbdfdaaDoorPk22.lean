/- Part 22 of what the statement wants. -/
import Derived.Deep.Cut
import Derived.Test.YtpkkeeblgbdfdaaDoorPk03
import Derived.Test.YtpkkeeblgbdfdaaDoorPk05
import Derived.Test.YtpkkeeblgbdfdaaDoorPk21
namespace Go.Proofs.YtpkkeeblgbdfdaaDoor
open Go.RowKit Go.Maps Go.WideMaps

theorem empty32 {b : ByteArray} (h : b.size ≠ 0) : b.toList.isEmpty = false := by
  rw [ByteArray.toList_eq]
  cases hb : b.data.toList with
  | nil =>
    refine absurd ?_ h
    have : b.data.size = 0 := by rw [← Array.length_toList, hb]; rfl
    exact this
  | cons a l => rfl
/-- Which event is the first one that violates a rule. -/
def wrongO (S : List Int) (l : List EvV) : Option Nat := (List.range l.length).find? fun k => (badK S l k).size != 0
def wrongI (S : List Int) (l : List EvV) : Int := match wrongO S l with
  | some k => (k : Int)
  | none => -1
def wrongW (S : List Int) (l : List EvV) : ByteArray := match wrongO S l with
  | some k => badK S l k
  | none => ⟨#[]⟩
theorem wrongO_none {S : List Int} {l : List EvV} (h : ∀ j < l.length, (badK S l j).size = 0) : wrongO S l = none := List.find?_eq_none.2 fun i hi => by simp [h i (List.mem_range.1 hi)]
theorem wrongO_hit {S : List Int} {l : List EvV} {k : Nat} (h : ∀ j < k, (badK S l j).size = 0) (hk : k < l.length) (h0 : (badK S l k).size ≠ 0) : wrongO S l = some k := by
  obtain ⟨m, hm⟩ : ∃ m, l.length = k + (m + 1) := ⟨l.length - k - 1, by omega⟩
  unfold wrongO
  rw [hm, List.range_add, List.find?_append, List.find?_eq_none.2 fun i hi => by simp [h i (List.mem_range.1 hi)], Option.none_or, List.range_succ_eq_map, List.map_cons, List.find?_cons]
  have e : ((badK S l (k + 0)).size != 0) = true := by simpa using h0
  rw [e]
  rfl
/-- All safe events. -/
def SA (l : List EvV) : List Int := safesL l l.length
theorem SA_rise (l : List EvV) : (SA l).Pairwise (· < ·) := safes_rise _ _
theorem SA_len (l : List EvV) : (SA l).length ≤ l.length := safes_len _ _
set_option maxHeartbeats 4000000 in
set_option maxRecDepth 100000 in
theorem agWrong_any {w : World} {v : Value} {l : List EvV} (h : EventsAt w v l) (hl : l.length ≤ 900) (ho : ∀ x ∈ l, ∀ u ∈ x.row.toList, CellOk u) :
    Calls Tryd.prog 7 #[v] w fun e w' => e = .returned (.tuple #[.int .i64 (wrongI (SA l) l), .string (wrongW (SA l) l)]) ∧ Below w.heap.size w w' := by
  obtain ⟨ao, cap, rfl, hc⟩ := id h
  have HSf : Hid (Calls Tryd.prog 19 #[.slice ao l.length cap] w fun e w' => ∃ a m c, e = .returned (.slice a m c) ∧ IdsAt w' (.slice a m c) (SA l) ∧ Below w.heap.size w w') := by
    refine Calls.mono (safes_any h (by omega) ho) ?_
    rintro e w' ⟨v', rfl, hi, hb'⟩
    obtain ⟨a, c, rfl, hh⟩ := hi
    exact ⟨a, _, c, rfl, ⟨a, c, rfl, hh⟩, hb'⟩
  have HNp : Hid (∀ W a m c, Calls Tryd.prog 18 #[.slice a m c] W fun e w' => e = .returned (.pointer (some ⟨W.heap.size + 4, 0, none⟩)) ∧ PastNew W (.slice a m c) w') := fun W a m c => newPast_any _ ⟨_, _, _, rfl⟩ W
  have HRu : Hid (∀ P W, Calls Tryd.prog 17 #[.pointer (some ⟨P, 0, none⟩)] W fun e w' => ∃ g, e = .returned (.slice (some ⟨g, 0, none⟩) 10 10) ∧ RulesBox W.heap.size w' g P ∧ Below W.heap.size W w') := fun P W => rules_any P W
  have HAd : Hid (∀ w0 W v' k (hk : k < l.length), PastAt w0 W v' (SA l) l k → IdsAt w0 v' (SA l) → Calls Tryd.prog 20 #[.pointer (some ⟨w0.heap.size + 4, 0, none⟩), .agg (l[k]).row] W fun e w' => e = .returned (.tuple #[]) ∧ PastAt w0 w' v' (SA l) l (k + 1) ∧ (∀ b, w0.heap.size + 5 ≤ b → b < W.heap.size → w'.heap[b]? = W.heap[b]?) ∧ W.heap.size ≤ w'.heap.size) := fun w0 W v' k hk hp hi =>
    add_any hp hi (SA_rise l) (by have := SA_len l; omega) (List.getElem?_eq_getElem (by omega)) (by omega) (ho _ (List.getElem_mem _))
  have HVi : Hid (∀ lo w0 W v' g k (hk : k < l.length), PastAt w0 W v' (SA l) l k → IdsAt w0 v' (SA l) → RulesBox lo W g (w0.heap.size + 4) → Calls Tryd.prog 15 #[.slice (some ⟨g, 0, none⟩) 10 10, .agg (l[k]).row] W fun e w' => e = .returned (.string (badK (SA l) l k)) ∧ Below W.heap.size W w') := fun lo w0 W v' g k hk hp hi hb => by
    have h1 := violated_any (rules_at hp hb (List.getElem?_eq_getElem hk) (ho _ (List.getElem_mem _)) hi (SA_rise l) (by have := SA_len l; omega) (by omega)) rfl 10
    have e : badK (SA l) l k = firstBad nmR (ruleB (SA l) l k l[k]) 10 := by unfold badK; rw [List.getElem?_eq_getElem hk]
    rw [e]
    exact h1
  have HCl : Hid (l ≠ [] → ∃ b off, ao = some ⟨b, off, none⟩ ∧ Hid (∀ W, Below w.heap.size w W → ∀ k (hk : k < l.length), ∀ j u, (l[k]).row[j]? = some u → W.cell? ((⟨b, off + k * 34, none⟩ : Addr).add j) = some u)) := fun hne => by
    obtain ⟨b, off, e, hb, hcell⟩ := hc hne
    refine ⟨b, off, e, Lib.hid fun W hw k hk j u hj => ?_⟩
    rw [Addr.add_lit]
    exact (hw.cell (p := ⟨b, off + k * 34 + j, none⟩) hb).trans (hcell k _ (List.getElem?_eq_getElem hk) j u hj)
  have HN : Hid ((∀ j < l.length, (badK (SA l) l j).size = 0) → wrongI (SA l) l = -1 ∧ wrongW (SA l) l = ⟨#[]⟩) := fun hh => by unfold wrongI wrongW; rw [wrongO_none hh]; exact ⟨rfl, rfl⟩
  have HH : Hid (∀ k < l.length, (∀ j < k, (badK (SA l) l j).size = 0) → (badK (SA l) l k).size ≠ 0 → wrongI (SA l) l = (k : Int) ∧ wrongW (SA l) l = badK (SA l) l k) := fun k hk hh h0 => by unfold wrongI wrongW; rw [wrongO_hit hh hk h0]; exact ⟨rfl, rfl⟩
  clear h hc ho
  generalize wrongI (SA l) l = wi at *
  generalize wrongW (SA l) l = ww at *
  generalize SA l = S at *
  go_enter Tryd.func7, Tryd.ntmps7
  go_wp2_with (first
    | (go_at_call 19; (with_reducible refine HSf.out.mono ?_); rintro e w1 ⟨a1, m1, c1, rfl, hi1, b1⟩; have HI := Lib.hid hi1; have B1 := Lib.hid b1; clear hi1 b1)
    | (go_at_call 18; (with_reducible refine (HNp.out _ _ _ _).mono ?_); rintro e w2 ⟨rfl, hp⟩; have HP := Lib.hid (PastAt.made hp S l); have HLo : Hid (w1.heap.size + 5 ≤ w2.heap.size) := Lib.hid hp.box.lt; clear hp)
    | (go_at_call 17; (with_reducible refine (HRu.out _ _).mono ?_); rintro e w3 ⟨g, rfl, hr, b3⟩; have HR := Lib.hid hr; have HP3 := Lib.hid (HP.out.keep b3); clear hr b3))
  have HR0 : Hid (RulesBox (w1.heap.size + 5) w3 g (w1.heap.size + 4)) := Lib.hid (by
    obtain ⟨B, k1, p1, k2, p2, k3, p3, h0, h1, h2, h3, h4, h5⟩ := HR.out
    exact ⟨B, k1, p1, k2, p2, k3, p3, ⟨Nat.le_trans HLo.out h0.1, Nat.le_trans HLo.out h0.2⟩, h1, h2, h3.lower HLo.out, h4.lower HLo.out, h5.lower HLo.out⟩)
  clear HP HR HLo HSf HNp HRu
  go_loopw [16] (fun i wr => ∃ k : Nat, k ≤ l.length ∧ i = .int .i64 k ∧ Hid (∀ j < k, (badK S l j).size = 0) ∧ Hid (PastAt w1 wr (.slice a1 m1 c1) S l k) ∧ Hid (RulesBox (w1.heap.size + 5) wr g (w1.heap.size + 4))) (fun i _ => l.length - (intOf i).toNat)
  case atStart => exact ⟨0, Nat.zero_le _, rfl, Lib.hid fun j hj => absurd hj (by omega), HP3, HR0⟩
  case round =>
    obtain ⟨k, hk, rfl, HA, HPk, HRk⟩ := hrel
    have hbw : Below w1.heap.size w1 wr := by
      obtain ⟨_, _, _, _, _, _, _, _, hm, _⟩ := HPk.out
      exact hm.below
    have HBw : Hid (Below w.heap.size w wr) := Lib.hid (B1.out.trans (hbw.mono B1.out.size))
    clear hbw HP3 HR0
    by_cases hlt : k < l.length
    · obtain ⟨b, off, rfl, HCe⟩ := HCl.out (by rintro rfl; simp at hlt)
      have HL := Lib.hid (HCe.out wr HBw.out k hlt)
      have HS : Hid ((l[k]).row.size = 34 ∧ (l[k]).row.all (·.oneCell') = true) := ⟨rfl, EvV.row_one _⟩
      have HAk := Lib.hid (fun W hp => HAd.out w1 W (.slice a1 m1 c1) k hlt hp HI.out)
      have HVk := Lib.hid (fun W hp hb => HVi.out (w1.heap.size + 5) w1 W (.slice a1 m1 c1) g k hlt hp HI.out hb)
      have hki : (k : Int) < (l.length : Int) := by omega
      have HHk := Lib.hid (fun h0 => HH.out k hlt HA.out h0)
      have HNx : Hid ((badK S l k).size = 0 → ∀ j < k + 1, (badK S l j).size = 0) := fun e j hj => by
        rcases Nat.lt_or_eq_of_le (Nat.le_of_lt_succ hj) with h | rfl
        · exact HA.out j h
        · exact e
      clear HAd HVi HCe HCl HH HN HA
      generalize badK S l k = bk at *
      generalize (l[k]).row = R at *
      go_upto_region 6 with (first
        | (refine wpList_load_cells rfl 45 _ rfl ⟨b, off + k * 34, none⟩ rfl R _ HL.out Tryd.underlying45 rfl (by rw [HS.out.1]; exact sizeEvent) ?_)
        | (refine wpList_store_new rfl 45 _ _ rfl wr.heap.size _ R 45 rfl rfl rfl (by rw [HS.out.1]; exact sizeEvent) (by rw [HS.out.1]; rfl) HS.out.2 ?_))
      obtain ⟨E, hE⟩ : ∃ E, Hid (E = wr.heap.size) := ⟨_, Lib.hid rfl⟩
      have ba : Below wr.heap.size wr (wr.alloc (.cells R 45)) := (Below.refl _ wr).alloc (Nat.le_refl _) _
      have HP1 := Lib.hid (HPk.out.keep ba)
      have HR1 := Lib.hid (HRk.out.keep ba)
      have HBw1 : Hid (Below w.heap.size w (wr.alloc (.cells R 45))) := Lib.hid (HBw.out.alloc HBw.out.size _)
      have HE1 : Hid (Holds (wr.alloc (.cells R 45)) E 45 R) := by
        show Holds _ E _ _
        rw [hE.out]
        exact Holds.new wr _ _
      rw [← hE.out]
      clear HL HPk HRk hE ba HBw
      generalize wr.alloc (.cells R 45) = W1 at *
      have tok : Hid True := trivial
      have tok2 : Hid True := trivial
      by_cases h0 : bk.size = 0
      · have hbk : bk = ⟨#[]⟩ := by
          cases bk with
          | mk d =>
            congr
            exact Array.eq_empty_of_size_eq_zero h0
        have HA2 := Lib.hid (HNx.out h0)
        subst hbk
        clear HHk HNx h0
        go_wp2_with (first
          | (clear tok; refine wpList_load_row rfl 45 _ rfl E rfl 45 R (0, 0) _ (by exact HE1.out) Tryd.underlying45 rfl (by rw [HS.out.1]; exact sizeEvent) ?_)
          | (go_at_call 15; (with_reducible refine (HVk.out _ HP1.out HR1.out).mono ?_); rintro e w4 ⟨rfl, b4⟩; have HP4 := Lib.hid (HP1.out.keep b4); have HR4 := Lib.hid (HR1.out.keep b4); have HE4 : Hid (Holds w4 E 45 R) := Lib.hid ((b4.block _ HE1.out.lt).trans HE1.out); clear b4)
          | (clear tok2; refine wpList_load_row rfl 45 _ rfl E rfl 45 R (0, 0) _ (by exact HE4.out) Tryd.underlying45 rfl (by rw [HS.out.1]; exact sizeEvent) ?_)
          | (go_at_call 20; (with_reducible refine (HAk.out _ HP4.out).mono ?_); rintro e w5 ⟨rfl, hp5, hk5, _⟩; have HP5 := Lib.hid hp5; have HR5 := Lib.hid (HR4.out.kept hk5); clear hp5 hk5))
        go_roundw
        case rel => exact ⟨k + 1, by omega, by go_num, HA2, HP5, HR5⟩
        case measure => simp [intOf]; omega
      · have HF := Lib.hid (HHk.out h0)
        have qe : bk.toList.isEmpty = false := empty32 h0
        clear HHk HNx h0
        go_wp2_with (first
          | (clear tok; refine wpList_load_row rfl 45 _ rfl E rfl 45 R (0, 0) _ (by exact HE1.out) Tryd.underlying45 rfl (by rw [HS.out.1]; exact sizeEvent) ?_)
          | (go_at_call 15; (with_reducible refine (HVk.out _ HP1.out HR1.out).mono ?_); rintro e w4 ⟨rfl, b4⟩; have B4 := Lib.hid (HBw1.out.trans (b4.mono HBw1.out.size)); clear b4))
        go_ret2
        exact ⟨by rw [HF.out.1, HF.out.2]; rfl, B4.out⟩
    · have hkl : k = l.length := by omega
      subst hkl
      have HF := Lib.hid (HN.out HA.out)
      clear HAd HVi HCl HH HN HA hlt
      go_wp2_with fail
      go_ret2
      exact ⟨by rw [HF.out.1, HF.out.2]; rfl, HBw.out⟩
end Go.Proofs.YtpkkeeblgbdfdaaDoor

namespace Go.Proofs.YtpkkeeblgbdfdaaDoor
open Go.RowKit

/-- An exchange of a session. -/
def exchP (s : Int) (x : EvV) : Bool := (x.se == s) && ((x.ki == 1) || (x.ki == 2))
/-- Must an event have a source, by the document? -/
def askedR (l : List EvV) (n : Nat) : Bool := match l[n]? with
  | none => false
  | some x => if x.ki = 5 then (match (l.take n).findIdx? (exchP x.se) with
      | some i => (match l[i]? with
        | some y => y.ki == 2 && safeB l i
        | none => false)
      | none => false) else safeB l n
end Go.Proofs.YtpkkeeblgbdfdaaDoor

namespace Go.Proofs.YtpkkeeblgbdfdaaDoor
open Go.RowKit

/-- Do two events tell the same of a user? -/
def sameB (x y : EvV) : Bool := (x.wh == y.wh) && ((x.us.toList == y.us.toList) && ((x.sv.toList == y.sv.toList) && ((x.al.toList == y.al.toList) && (x.sid == y.sid))))
end Go.Proofs.YtpkkeeblgbdfdaaDoor

namespace Go.Proofs.YtpkkeeblgbdfdaaDoor
open Go.RowKit

/-- Is an event (y) one that another (x) may come from? -/
def srcB (x y : EvV) : Bool := ((x.ki == 2) && ((y.ki == 1) && ((y.wh == x.wh) && decide (y.dn = x.dn)))) || (((x.ki == 4) && ((y.ki == 3) && sameB y x)) || ((x.ki == 5) && ((y.ki == 4) && sameB y x)))
set_option maxRecDepth 100000 in
theorem guardDone32 : Tryd.prog.eqGuardType Tryd.prog.depth 43 = false := by kernel_rfl
end Go.Proofs.YtpkkeeblgbdfdaaDoor
