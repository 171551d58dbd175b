/- Layer 37: few, the page's example. -/
import Derived.Test.YtjphlhehhigpjaaCe5
import Derived.Test.YtjphlhehhigpjaaEvAw
namespace Go.Proofs.Ytjphlhehhigpjaa
open Go.RowKit

theorem sizeChoice37 : (Try.prog.info? 38).map (·.size) = some 8 := by kernel_rfl
/-- What few says: if so, there are at most 60. -/
def Few37 (l : List EvV) (w : World) (e : Ending) (w' : World) : Prop := ∃ z : Bool, e = .returned (.bool z) ∧ (z = true → l.length ≤ 60) ∧ Below w.heap.size w w'
set_option maxHeartbeats 8000000 in
set_option maxRecDepth 100000 in
theorem few37_any {w : World} {v : Value} {l : List EvV} (h : EventsAt w v l) (ho : ∀ x ∈ l, ∀ u ∈ x.row.toList, CellOk u) :
    Calls Try.prog 6 #[v] w (Few37 l w) := by
  obtain ⟨ao, cap, rfl, hc⟩ := h
  have HF : Hid (∀ (z : Bool) w', (z = true → l.length ≤ 60) → Below w.heap.size w w' → Few37 l w (.returned (.bool z)) w') := fun z w' h1 h2 => ⟨z, rfl, h1, h2⟩
  have HCl : Hid (l ≠ [] → ∃ b off, ao = some ⟨b, off, none⟩ ∧ Hid (∀ W, Below w.heap.size w W → ∀ k (hk : k < l.length), ∀ j u, (#[.string (l[k]).dn.h0, .string (l[k]).dn.h1, .string (l[k]).dn.h2, .string (l[k]).dn.h3, .string (l[k]).dn.h4, .string (l[k]).dn.h5, .string (l[k]).dn.h6, .string (l[k]).dn.h7] : Array Value)[j]? = some u → W.cell? ((⟨b, off + k * 34 + 12, none⟩ : Addr).add j) = some u)) := fun hne => by
    obtain ⟨b, off, e, hb, hcell⟩ := hc hne
    refine ⟨b, off, e, Lib.hid fun W hw k hk j u hj => ?_⟩
    rw [Addr.add_lit, Nat.add_assoc]
    have hj8 : j < 8 := by
      rcases Nat.lt_or_ge j 8 with h | h
      · exact h
      · rw [Array.getElem?_eq_none (by exact h)] at hj; cases hj
    refine (hw.cell (p := ⟨b, off + k * 34 + (12 + j), none⟩) hb).trans (hcell k _ (List.getElem?_eq_getElem hk) (12 + j) u ?_)
    match j, hj8 with
    | 0, _ => exact hj
    | 1, _ => exact hj
    | 2, _ => exact hj
    | 3, _ => exact hj
    | 4, _ => exact hj
    | 5, _ => exact hj
    | 6, _ => exact hj
    | 7, _ => exact hj
  clear hc ho
  by_cases hlen : l.length ≤ 60
  case neg =>
    have q : decide ((l.length : Int) > 60) = true := decide_eq_true (by omega)
    clear HCl
    go_enter Try.func6, Try.ntmps6
    go_wp2_with fail
    go_ret
    exact HF.out false _ (by simp) (Below.refl _ _)
  have q : decide ((l.length : Int) > 60) = false := decide_eq_false (by omega)
  go_enter Try.func6, Try.ntmps6
  go_wp2_with fail
  go_loopw [3] (fun i wr => ∃ k : Nat, k ≤ l.length ∧ i = .int .i64 k ∧ Hid (Below w.heap.size w wr)) (fun i _ => l.length - (intOf i).toNat)
  case atStart => exact ⟨0, Nat.zero_le _, rfl, Lib.hid (Below.refl _ _)⟩
  case round =>
    obtain ⟨k, hk, rfl, HB⟩ := hrel
    by_cases hlt : k < l.length
    case neg =>
      have hkl : k = l.length := by omega
      subst hkl
      clear HCl hlt
      go_wp2_with fail
      go_ret
      exact HF.out true _ (fun _ => hlen) HB.out
    obtain ⟨b, off, rfl, HCe⟩ := HCl.out (by rintro rfl; simp at hlt)
    have hki : (k : Int) < (l.length : Int) := by omega
    have HLk := Lib.hid (HCe.out wr HB.out k hlt)
    clear HCl HCe
    generalize (l[k]).dn.h0 = h0 at *
    generalize (l[k]).dn.h1 = h1 at *
    generalize (l[k]).dn.h2 = h2 at *
    generalize (l[k]).dn.h3 = h3 at *
    generalize (l[k]).dn.h4 = h4 at *
    generalize (l[k]).dn.h5 = h5 at *
    generalize (l[k]).dn.h6 = h6 at *
    generalize (l[k]).dn.h7 = h7 at *
    go_upto_region 7 with (first
      | (refine wpList_load_cells rfl 38 _ rfl ⟨b, off + k * 34 + 12, none⟩ rfl #[.string h0, .string h1, .string h2, .string h3, .string h4, .string h5, .string h6, .string h7] _ HLk.out Try.underlying38 rfl (by exact sizeChoice37) ?_)
      | (refine wpList_store_new rfl 38 _ _ rfl wr.heap.size _ #[.string h0, .string h1, .string h2, .string h3, .string h4, .string h5, .string h6, .string h7] 38 rfl rfl rfl (by exact sizeChoice37) rfl rfl ?_))
    have HN := Holds.new wr 38 #[.string h0, .string h1, .string h2, .string h3, .string h4, .string h5, .string h6, .string h7]
    have c0 := HN.cell 0
    have c1 := HN.cell 1
    have c2 := HN.cell 2
    have c3 := HN.cell 3
    have c4 := HN.cell 4
    have c5 := HN.cell 5
    have c6 := HN.cell 6
    have c7 := HN.cell 7
    simp only [List.getElem?_toArray, List.getElem?_cons_zero, List.getElem?_cons_succ] at c0 c1 c2 c3 c4 c5 c6 c7
    have HB5 : Hid (Below w.heap.size w (wr.alloc (.cells #[.string h0, .string h1, .string h2, .string h3, .string h4, .string h5, .string h6, .string h7] 38))) := Lib.hid (HB.out.alloc HB.out.size _)
    clear HN HLk HB
    obtain ⟨E5, hE5⟩ : ∃ E5, E5 = wr.heap.size := ⟨_, rfl⟩
    rw [← hE5] at c0 c1 c2 c3 c4 c5 c6 c7 ⊢
    clear hE5
    generalize wr.alloc (.cells #[.string h0, .string h1, .string h2, .string h3, .string h4, .string h5, .string h6, .string h7] 38) = W5 at *
    go_cut [57] (fun u wx => Hid (∃ z : Bool, u = .bool z) ∧ Hid (Below w.heap.size w wx))
    case first =>
      clear HF
      by_cases a0 : wrap64 ((h0.size : Int) + (h1.size : Int)) > 200
      · have q0 : decide (wrap64 ((h0.size : Int) + (h1.size : Int)) > 200) = true := decide_eq_true a0
        clear a0
        go_wp2_with fail
        go_meet
        case rel => exact ⟨Lib.hid ⟨_, rfl⟩, HB5⟩
      have q0 : decide (wrap64 ((h0.size : Int) + (h1.size : Int)) > 200) = false := decide_eq_false a0
      by_cases a1 : wrap64 ((h2.size : Int) + (h3.size : Int)) > 200
      · have q1 : decide (wrap64 ((h2.size : Int) + (h3.size : Int)) > 200) = true := decide_eq_true a1
        clear a0 a1
        go_wp2_with fail
        go_meet
        case rel => exact ⟨Lib.hid ⟨_, rfl⟩, HB5⟩
      have q1 : decide (wrap64 ((h2.size : Int) + (h3.size : Int)) > 200) = false := decide_eq_false a1
      by_cases a2 : wrap64 ((h4.size : Int) + (h5.size : Int)) > 200
      · have q2 : decide (wrap64 ((h4.size : Int) + (h5.size : Int)) > 200) = true := decide_eq_true a2
        clear a0 a1 a2
        go_wp2_with fail
        go_meet
        case rel => exact ⟨Lib.hid ⟨_, rfl⟩, HB5⟩
      have q2 : decide (wrap64 ((h4.size : Int) + (h5.size : Int)) > 200) = false := decide_eq_false a2
      clear a0 a1 a2
      go_wp2_with fail
      go_meet
      case rel => exact ⟨Lib.hid ⟨_, rfl⟩, HB5⟩
    case rest =>
    obtain ⟨hz, HB6⟩ := hcut
    obtain ⟨z, hz⟩ := hz.out
    subst hz
    clear HB5 c0 c1 c2 c3 c4 c5 c6 c7
    cases z with
    | true =>
      go_wp2_with fail
      go_ret
      exact HF.out false _ (by simp) HB6.out
    | false =>
      go_wp2_with fail
      go_roundw
      case rel => exact ⟨k + 1, by omega, by go_num, HB6⟩
      case measure => simp [intOf]; omega
end Go.Proofs.Ytjphlhehhigpjaa
