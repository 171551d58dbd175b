/- The document's reader of wire values: Whole. -/
import Derived.Test.YtfbegkmogdjaiaaDoorWRef3
namespace Go.Proofs.YtfbegkmogdjaiaaDoor
open Go.RowKit

set_option maxRecDepth 100000 in
theorem qW_any (l : List UInt8) (hl : l.length ≤ 100000) (w : World) : Calls Tryd.prog 49 #[.string (bs l)] w fun e w' => e = .returned (.string (bs (cnt (wholeL l)))) ∧ Below w.heap.size w w' := by
  have HU := Lib.hid (fun W => qPlain_any l (by omega) W)
  have hw := plainL_le l
  have hwh := wholeL_le l
  have HT := Lib.hid (fun W => qT_any (wholeL l) (by omega) W)
  have HW : Hid (wholeL l = if 128 ≤ (hd0 (plainL l)).toNat then 0 :: plainL l else plainL l) := rfl
  generalize wholeL l = wl at *
  generalize plainL l = p at *
  obtain ⟨B, hB⟩ : ∃ B, B = bs l := ⟨_, rfl⟩
  rw [← hB] at HU ⊢
  clear hB
  cases p with
  | nil =>
    have HW2 : Hid (wl = []) := HW.out
    have hT : Hid (∀ W : World, Calls Tryd.prog 50 #[.string ⟨#[]⟩] W fun e w' => e = .returned (.string (bs (cnt wl))) ∧ Below W.heap.size W w') := by
      have := HT.out
      rw [HW2.out] at this ⊢
      exact this
    have HU2 : Hid (∀ W : World, Calls Tryd.prog 30 #[.string B] W fun e w' => e = .returned (.string ⟨#[]⟩) ∧ w' = W) := HU.out
    clear HU HT HW HW2 hw
    generalize cnt wl = cl at *
    go_enter Tryd.func49, Tryd.ntmps49
    go_wp2_with (first
      | (go_at_call 30; refine (HU2.out _).mono ?_; rintro e w' ⟨rfl, rfl⟩)
      | (go_at_call 50; refine (hT.out _).mono ?_; rintro e w' ⟨rfl, hb⟩))
    go_ret
    exact ⟨rfl, hb⟩
  | cons b r =>
    have hi0 : ∀ W : World, (Instr.index 9 (.string (bs (b :: r))) (.int .i64 0)).run Tryd.prog W = .ok (.int .u8 (b.toNat : Int)) W := fun W => index_bs (b :: r) 0 (by simp) W
    have hsz := bs_size (b :: r)
    simp only [List.length_cons] at hsz
    have hpos : 0 < (bs (b :: r)).size := by omega
    have h2 : (bs (b :: r)).size ≤ 1000000 := by rw [bs_size]; omega
    by_cases hb : 128 ≤ b.toNat
    · have HW2 : wl = 0 :: b :: r := by
        have := HW.out
        rwa [if_pos (by exact hb)] at this
      have hq : ((b.toNat : Int) > 127) := by omega
      have HA : Hid (bs [0] ++ bs (b :: r) = bs (0 :: b :: r)) := bs_append _ _
      rw [HW2] at HT ⊢
      have h1 : (bs [0]).size ≤ 1 := by rw [bs_size]; simp
      rw [← HA.out] at HT
      generalize cnt (0 :: b :: r) = cl at *
      clear HW HW2 hsz hb HA
      generalize bs (b :: r) = C at *
      obtain ⟨Z, hZ⟩ : ∃ Z, Z = bs [0] := ⟨_, rfl⟩
      have hz := fun W => qB_zero W
      rw [← hZ] at HT h1
      have HZ : Hid (∀ W : World, Calls Tryd.prog 58 #[.int .u8 0] W fun e w' => e = .returned (.string Z) ∧ Below W.heap.size W w') := by rw [hZ]; exact hz
      clear hZ hz
      generalize b.toNat = n at *
      go_enter Tryd.func49, Tryd.ntmps49
      go_wp2_with (first
        | (go_at_call 30; refine (HU.out _).mono ?_; rintro e w1 ⟨rfl, rfl⟩)
        | (go_at_call 58; refine (HZ.out _).mono ?_; rintro e w2 ⟨rfl, hb2⟩)
        | (go_at_call 50; refine (HT.out _).mono ?_; rintro e w3 ⟨rfl, hb3⟩))
      go_ret
      exact ⟨rfl, hb2.trans (hb3.mono hb2.size)⟩
    · have HW2 : wl = b :: r := by
        have := HW.out
        rwa [if_neg (by exact hb)] at this
      have hq : decide ((b.toNat : Int) > 127) = false := decide_eq_false (by omega)
      rw [HW2] at HT ⊢
      generalize cnt (b :: r) = cl at *
      clear HW HW2 hsz hb
      generalize bs (b :: r) = C at *
      generalize b.toNat = n at *
      go_enter Tryd.func49, Tryd.ntmps49
      go_wp2_with (first
        | (go_at_call 30; refine (HU.out _).mono ?_; rintro e w1 ⟨rfl, rfl⟩)
        | (go_at_call 50; refine (HT.out _).mono ?_; rintro e w3 ⟨rfl, hb3⟩))
      go_ret
      exact ⟨rfl, hb3⟩

set_option maxRecDepth 100000 in
theorem qWhole_any {w : World} {Q : Nat} {rest : List UInt8} {err : Int} (h : QAt w Q rest err) (hr : rest.length ≤ 10000) :
    Calls Tryd.prog 19 #[.pointer (some ⟨Q, 0, none⟩)] w fun e w' => e = .returned (.string (bs (plainL (countedP wholeR rest err).1))) ∧ QAt w' Q (countedP wholeR rest err).2.1 (countedP wholeR rest err).2.2 ∧ Moves (fun k => k = Q) w w' := by
  have c0 := Holds.cell h 0
  have c1 := Holds.cell h 1
  have hQ := Holds.lt h
  have hC := countedP_whole rest err
  have hT := Lib.hid (fun (W : World) (hW : QAt W Q rest err) => qText_any hW (by omega))
  have hw := countedP_word anyR rest err
  generalize countedP anyR rest err = p at *
  obtain ⟨s, r2, e2⟩ := p
  simp only at hT hC hw
  have HP := Lib.hid (fun W => qPlain_any s (by omega) W)
  have HW := Lib.hid (fun W => qW_any s (by omega) W)
  have HX := Lib.hid (fun W => qT_any s (by omega) W)
  have H0 : Hid (∀ (o : Obj) , QAt (w.alloc o) Q rest err) := fun o => Holds.moves h ((Moves.refl nobody w).alloc o) fun h => h
  clear hr hw h
  by_cases he : e2 = 0
  · subst he
    cases hws : wholeR s with
    | true =>
      rw [if_neg (by simp [hws])] at hC
      rw [hC]
      have heq : wholeL s = s := of_decide_eq_true ((wholeR_iff s).symm.trans hws)
      rw [heq] at HW
      generalize bs (cnt s) = C at *
      clear hC hws heq
      generalize plainL s = ps at *
      generalize bs s = S at *
      go_enter Tryd.func19, Tryd.ntmps19
      go_wp2_with (first
        | (go_at_call 17; refine (hT.out _ (H0.out _)).mono ?_; rintro e w1 ⟨rfl, h1, m1⟩; have d1 := Holds.cell h1 1)
        | (go_at_call 49; refine (HW.out _).mono ?_; rintro e w2 ⟨rfl, b2⟩)
        | (go_at_call 50; refine (HX.out _).mono ?_; rintro e w3 ⟨rfl, b3⟩)
        | (go_at_call 30; refine (HP.out _).mono ?_; rintro e w4 ⟨rfl, rfl⟩))
      go_ret
      exact ⟨rfl, Holds.moves (Holds.moves h1 (Moves.ofBelow (S := nobody) b2) fun h => h) (Moves.ofBelow (S := nobody) b3) fun h => h, ((((Moves.refl (fun k => k = Q) w).alloc _).trans m1 fun i hi => .inl hi).trans (Moves.ofBelow (S := nobody) b2) fun _ h => h.elim).trans (Moves.ofBelow (S := nobody) b3) fun _ h => h.elim⟩
    | false =>
      rw [if_pos ⟨rfl, hws⟩] at hC
      rw [hC]
      have hne : wholeL s ≠ s := of_decide_eq_false ((wholeR_iff s).symm.trans hws)
      have hn2 : bs (cnt (wholeL s)) ≠ bs (cnt s) := fun e => hne (cnt_inj (bs_inj e))
      have hq := same_no hn2
      have HE : Hid (bs (plainL []) = ⟨#[]⟩) := rfl
      have HNW : Hid (∀ W : World, Holds (W.alloc (.cells #[.string (bs rest), .int .i64 err] 28)) W.heap.size 28 #[.string (bs rest), .int .i64 err]) := fun W => Holds.new W _ _
      generalize bs (cnt s) = C at *
      generalize bs (cnt (wholeL s)) = C2 at *
      clear hC hws hne hn2 HP
      generalize bs s = S at *
      go_enter Tryd.func19, Tryd.ntmps19
      go_wp2_with (first
        | (go_at_call 17; refine (hT.out _ (H0.out _)).mono ?_; rintro e w1 ⟨rfl, h1, m1⟩; have d1 := Holds.cell h1 1; have hx1 := Holds.moves (HNW.out w) m1 (by omega))
        | (go_at_call 49; refine (HW.out _).mono ?_; rintro e w2 ⟨rfl, b2⟩; have hx2 := Holds.moves hx1 (Moves.ofBelow (S := nobody) b2) (fun h => h); have h2 : QAt w2 Q r2 0 := Holds.moves h1 (Moves.ofBelow (S := nobody) b2) (fun h => h))
        | (go_at_call 50; refine (HX.out _).mono ?_; rintro e w3 ⟨rfl, b3⟩; have hx3 := Holds.moves hx2 (Moves.ofBelow (S := nobody) b3) (fun h => h); have h3 : QAt w3 Q r2 0 := Holds.moves h2 (Moves.ofBelow (S := nobody) b3) (fun h => h)
           have e0 := Holds.cell hx3 0; have g0 := Holds.cell h3 0; have g1 := Holds.cell h3 1; have k0 := Holds.frozen h3 0; have k1 := Holds.frozen h3 1))
      go_ret
      refine ⟨by rw [HE.out]; rfl, Holds.set (Holds.set h3 0 _) 1 _, ?_⟩
      exact ((((((Moves.refl (fun k => k = Q) w).alloc _).trans m1 fun i hi => .inl hi).trans (Moves.ofBelow (S := nobody) b2) fun _ h => h.elim).trans (Moves.ofBelow (S := nobody) b3) fun _ h => h.elim).setCell (p := ⟨Q, 0, none⟩) (.inl rfl) _).setCell (p := ⟨Q, 1, none⟩) (.inl rfl) _
  · rw [if_neg (fun h => he h.1)] at hC
    rw [hC]
    have hq : (e2 == 0) = false := by simpa using he
    clear hC HW HX
    generalize plainL s = ps at *
    generalize bs s = S at *
    go_enter Tryd.func19, Tryd.ntmps19
    go_wp2_with (first
      | (go_at_call 17; refine (hT.out _ (H0.out _)).mono ?_; rintro e w1 ⟨rfl, h1, m1⟩; have d1 := Holds.cell h1 1)
      | (go_at_call 30; refine (HP.out _).mono ?_; rintro e w4 ⟨rfl, rfl⟩))
    go_ret
    exact ⟨rfl, h1, ((Moves.refl (fun k => k = Q) w).alloc _).trans m1 fun i hi => .inl hi⟩
end Go.Proofs.YtfbegkmogdjaiaaDoor
