/- The walk of the law WireWhole. -/
import Derived.Test.YtfbegkmogdjaiaaDoorWPure
import Derived.Test.YtfbegkmogdjaiaaDoorSame
namespace Go.Proofs.YtfbegkmogdjaiaaDoor
open Go.RowKit

set_option maxRecDepth 100000 in
theorem WireWhole_small (l : List UInt8) (hl : l.length ≤ 300) (w : World) : Calls Tryd.prog 5 #[.string (bs l)] w fun e w' => e = .returned (.bool true) ∧ Below w.heap.size w w' := by
  have hsz := bs_size l
  have HA := Lib.hid awake3_any
  have HT := Lib.hid (fun W => wText_any l (by omega) W)
  have HN := Lib.hid (fun W => wNew_any (cnt l) W)
  have hcl := cnt_length l
  have HC := Lib.hid (fun (W : World) (R : Nat) (r : List UInt8) (e : Int) (h : WAt W R r e) => err_any h)
  have HB : Hid (∀ (W W' : World) (R : Nat) (r : List UInt8) (e : Int), WAt W R r e → Below W.heap.size W W' → WAt W' R r e) := fun W W' R r e h hb => Holds.moves h (Moves.ofBelow (S := nobody) hb) fun h => h
  have hs1 : (bs l).size ≤ 300 := by omega
  cases hw : wholeR l with
  | false =>
    have hcp : countedP wholeR (cnt l) 0 = ([], cnt l, 3) := by
      have := countedP_form wholeR l [] (by omega) hw
      simpa using this
    have HW := Lib.hid (fun (W : World) (R : Nat) (h : WAt W R (cnt l) 0) => rWhole_any h (by omega))
    rw [hcp] at HW
    simp only at HW
    rw [show bs (plainL []) = ⟨#[]⟩ from rfl] at HW
    have HL := Lib.hid (fun (W : World) (R : Nat) (e : Int) (h : WAt W R (cnt l) e) => left_any h)
    rw [hcl] at HL
    have hne : wholeL l ≠ l := of_decide_eq_false ((wholeR_iff l).symm.trans hw)
    have hn2 : bs (cnt (wholeL l)) ≠ bs (cnt l) := fun e => hne (cnt_inj (bs_inj e))
    have hq := same_no hn2
    have HWW := Lib.hid (fun W => wWhole_any l (by omega) W)
    clear hw hcp hne hn2 hcl
    generalize bs (cnt (wholeL l)) = C2 at *
    generalize bs (cnt l) = C1 at *
    generalize hx : cnt l = cl at *
    clear hx
    generalize bs l = B at *
    go_enter Tryd.func5, Tryd.ntmps5
    go_wp2_with (first
      | (go_at_call 26; have hb7 := b7; with_reducible refine (HT.out _).mono ?_; rintro e w8 ⟨rfl, b8⟩)
      | (go_at_call 26; with_reducible refine (HT.out _).mono ?_; rintro e w1 ⟨rfl, b1⟩)
      | (go_at_call 9; refine (HN.out _).mono ?_; rintro e w2 ⟨rfl, h2, b2⟩)
      | (go_at_call 18; refine (HW.out _ _ h2).mono ?_; rintro e w3 ⟨rfl, h3, m3⟩)
      | (go_at_call 8; refine (HA.out _).mono ?_; rintro e w4 ⟨rfl, b4⟩; have h4 := HB.out _ _ _ _ _ h3 b4)
      | (go_at_call 22; with_reducible refine (HC.out _ _ _ _ h4).mono ?_; rintro e w5 ⟨rfl, rfl⟩)
      | (go_at_call 22; with_reducible refine (HC.out _ _ _ _ h3).mono ?_; rintro e w5 ⟨rfl, rfl⟩)
      | (go_at_call 23; with_reducible refine (HL.out _ _ _ h4).mono ?_; rintro e w6 ⟨rfl, rfl⟩)
      | (go_at_call 28; refine (HWW.out _).mono ?_; rintro e w7 ⟨rfl, b7⟩))
    go_ret
    have s1 := b1.size; have s2 := b2.size; have s3 := m3.size; have s4 := b4.size; have s7 := b7.size
    exact ⟨rfl, ((((((Below.refl w.heap.size w).trans b1).trans (b2.mono s1)).trans (m3.below (by omega) (fun i hi => by omega))).trans (b4.mono (by omega))).trans (b7.mono (by omega))).trans (b8.mono (by omega))⟩
  | true =>
    have hcp : countedP wholeR (cnt l) 0 = (l, [], 0) := by
      have := countedP_ok wholeR l [] (by omega) hw
      simpa using this
    have HW := Lib.hid (fun (W : World) (R : Nat) (h : WAt W R (cnt l) 0) => rWhole_any h (by omega))
    rw [hcp] at HW
    simp only at HW
    have HEn := Lib.hid (fun (W : World) (R : Nat) (h : WAt W R [] 0) => end_any h)
    rw [show endP [] 0 = 0 from rfl] at HEn
    have heq : wholeL l = l := of_decide_eq_true ((wholeR_iff l).symm.trans hw)
    have hpl := plainL_le l
    have HWW := Lib.hid (fun W => wWhole_any (plainL l) (by omega) W)
    rw [wholeL_plain, heq] at HWW
    have hps := bs_size (plainL l)
    have hix : Hid (plainL l = [] ∨ ∃ n : Nat, n ≠ 0 ∧ ∀ W : World, (Instr.index 9 (.string (bs (plainL l))) (.int .i64 0)).run Tryd.prog W = .ok (.int .u8 (n : Int)) W) := by
      rcases plainL_hd l with h | h
      · exact .inl h
      · cases hp : plainL l with
        | nil => exact .inl rfl
        | cons b r =>
          rw [hp] at h
          exact .inr ⟨b.toNat, h, fun W => index_bs (b :: r) 0 (by simp) W⟩
    clear hw hcp heq hcl
    generalize hx : cnt l = cl at *
    generalize bs cl = C1 at *
    clear hx
    generalize bs l = B at *
    generalize plainL l = p at *
    rcases hix.out with rfl | ⟨n, hn, hi0⟩
    · rw [show bs ([] : List UInt8) = ⟨#[]⟩ from rfl] at *
      clear hix hpl hps
      go_enter Tryd.func5, Tryd.ntmps5
      go_wp2_with (first
        | (go_at_call 26; have hb7 := b7; with_reducible refine (HT.out _).mono ?_; rintro e w8 ⟨rfl, b8⟩)
        | (go_at_call 26; with_reducible refine (HT.out _).mono ?_; rintro e w1 ⟨rfl, b1⟩)
        | (go_at_call 9; refine (HN.out _).mono ?_; rintro e w2 ⟨rfl, h2, b2⟩)
        | (go_at_call 18; refine (HW.out _ _ h2).mono ?_; rintro e w3 ⟨rfl, h3, m3⟩)
        | (go_at_call 8; refine (HA.out _).mono ?_; rintro e w4 ⟨rfl, b4⟩; have h4 := HB.out _ _ _ _ _ h3 b4)
        | (go_at_call 22; with_reducible refine (HC.out _ _ _ _ h3).mono ?_; rintro e w5 ⟨rfl, rfl⟩)
        | (go_at_call 24; with_reducible refine (HEn.out _ _ h4).mono ?_; rintro e w6 ⟨rfl, rfl⟩)
        | (go_at_call 28; refine (HWW.out _).mono ?_; rintro e w7 ⟨rfl, b7⟩))
      go_ret
      have s1 := b1.size; have s2 := b2.size; have s3 := m3.size; have s4 := b4.size; have s7 := b7.size
      exact ⟨rfl, ((((((Below.refl w.heap.size w).trans b1).trans (b2.mono s1)).trans (m3.below (by omega) (fun i hi => by omega))).trans (b4.mono (by omega))).trans (b7.mono (by omega))).trans (b8.mono (by omega))⟩
    · have hq : ((n : Int) != 0) = true := by
        rw [bne_iff_ne]
        omega
      clear hix
      generalize bs p = P at *
      have hP1 : P.size ≤ 300 := by omega
      clear hpl hps
      go_enter Tryd.func5, Tryd.ntmps5
      go_wp2_with (first
        | (go_at_call 26; have hb7 := b7; with_reducible refine (HT.out _).mono ?_; rintro e w8 ⟨rfl, b8⟩)
        | (go_at_call 26; with_reducible refine (HT.out _).mono ?_; rintro e w1 ⟨rfl, b1⟩)
        | (go_at_call 9; refine (HN.out _).mono ?_; rintro e w2 ⟨rfl, h2, b2⟩)
        | (go_at_call 18; refine (HW.out _ _ h2).mono ?_; rintro e w3 ⟨rfl, h3, m3⟩)
        | (go_at_call 8; refine (HA.out _).mono ?_; rintro e w4 ⟨rfl, b4⟩; have h4 := HB.out _ _ _ _ _ h3 b4)
        | (go_at_call 22; with_reducible refine (HC.out _ _ _ _ h3).mono ?_; rintro e w5 ⟨rfl, rfl⟩)
        | (go_at_call 24; with_reducible refine (HEn.out _ _ h4).mono ?_; rintro e w6 ⟨rfl, rfl⟩)
        | (go_at_call 28; refine (HWW.out _).mono ?_; rintro e w7 ⟨rfl, b7⟩))
      all_goals
        go_ret
        have s1 := b1.size; have s2 := b2.size; have s3 := m3.size; have s4 := b4.size; have s7 := b7.size
        exact ⟨rfl, ((((((Below.refl w.heap.size w).trans b1).trans (b2.mono s1)).trans (m3.below (by omega) (fun i hi => by omega))).trans (b4.mono (by omega))).trans (b7.mono (by omega))).trans (b8.mono (by omega))⟩
end Go.Proofs.YtfbegkmogdjaiaaDoor
