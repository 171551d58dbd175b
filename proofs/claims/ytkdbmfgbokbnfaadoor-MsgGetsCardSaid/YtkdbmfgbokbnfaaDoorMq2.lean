/- The document's values of messages: put. -/
import Derived.Test.YtkdbmfgbokbnfaaDoorMq1
namespace Go.Proofs.YtkdbmfgbokbnfaaDoor
open Go.RowKit

theorem add_str (a b : List UInt8) (h : a.length + b.length ≤ 1000000000) : ∀ W : World, (Op.stringOp .add (bs a) (bs b)).run Tryd.prog W = .ok (.string (bs (a ++ b))) W := fun W => by
  have := run_string_add_sum (P := Tryd.prog) W (bs a) (bs b) (by rw [bs_size, bs_size]; omega)
  rw [bs_append] at this
  exact this

set_option maxHeartbeats 1000000 in
set_option maxRecDepth 100000 in
theorem qexts_any {w : World} {v : Value} {l : List (List UInt8)} (hv : TextsAt w v (l.map bs)) (hl : l.length ≤ 1000000) (hs : ∀ x ∈ l, x.length ≤ 1000000) :
    Calls Tryd.prog 34 #[v] w fun e w' => e = wroteV (extsP l) ∧ Below w.heap.size w w' := by
  unfold wroteV
  obtain ⟨ao, cap, rfl, hc⟩ := hv
  rw [List.length_map] at *
  have q2 : ((l.length : Int) % 2 == 1) = !decide (l.length % 2 = 0) := by
    rw [show (l.length : Int) % 2 = ((l.length % 2 : Nat) : Int) by omega]
    by_cases h : l.length % 2 = 0
    · simp [h]
    · rw [decide_eq_false h, beq_iff_eq.2 (by omega)]; rfl
  by_cases h2 : l.length % 2 = 0
  · rw [decide_eq_true h2, Bool.not_true] at q2
    by_cases h16 : 16 < l.length
    · have hw : extsP l = ([], 2) := by unfold extsP; rw [if_neg (by omega), if_pos h16]
      rw [hw]
      have q16 : (l.length : Int) > 16 := by omega
      clear hw hc hs h2 h16
      generalize l.length = m at *
      go_enter Tryd.func34, Tryd.ntmps34
      go_wp2
      go_ret2
      exact ⟨rfl, Below.refl _ _⟩
    · have hw : extsP l = (pack4 (l.length / 2) ++ (l.map cnt).flatten, 0) := by unfold extsP; rw [if_neg (by omega), if_neg h16]
      rw [hw]
      have q16 : ¬ (l.length : Int) > 16 := by omega
      obtain ⟨d, hd⟩ : ∃ d, d = l.length / 2 := ⟨_, rfl⟩
      have hd8 : d ≤ 8 := by omega
      have hdiv : (l.length : Int) / 2 = (d : Int) := by omega
      have hU : Hid (∀ W : World, Calls Tryd.prog 28 #[.int .i64 ((l.length : Int) / 2)] W fun e w' => e = .returned (.string (bs (pack4 d))) ∧ Below W.heap.size W w') := fun W => by rw [hdiv]; exact refU32_any d (by omega) W
      rw [← hd]
      have HC : Hid (∀ W, Below w.heap.size w W → ∀ k x, l[k]? = some x → ∃ b off, ao = some ⟨b, off, none⟩ ∧ W.cell? ⟨b, off + k, none⟩ = some (.string (bs x))) := fun W hb k x hk => by
        obtain ⟨b, off, rfl, hbl, hcc⟩ := hc (by intro h; simp at h; subst h; simp at hk)
        exact ⟨b, off, rfl, (hb.cell (p := ⟨b, off + k, none⟩) hbl).trans (hcc k (bs x) (by simp [hk]))⟩
      have HS := Lib.hid hs
      have HL : Hid (∃ m, m = l.length) := ⟨_, rfl⟩
      obtain ⟨m, hm⟩ := HL.out
      have hm16 : m ≤ 16 := by omega
      have HM := Lib.hid hm
      have HP4 : Hid ((pack4 d).length = 4) := rfl
      rw [← hm] at q2 q16 hU ⊢
      clear hw hc hs h2 h16 hd hm hl HL hdiv
      generalize pack4 d = P4 at *
      go_enter Tryd.func34, Tryd.ntmps34
      go_wp2_with (go_at_call 28; with_reducible refine (hU.out _).mono ?_; rintro e w1 ⟨rfl, b1⟩)
      have HBw := Lib.hid b1
      clear b1 hU
      go_loopw [4, 5] (fun f i wr => ∃ k, k ≤ m ∧ i = .int .i64 ((k : Nat) : Int) ∧ f = .string (bs (P4 ++ ((l.take k).map cnt).flatten)) ∧ Below w.heap.size w wr) (fun _ i _ => m - (intOf i).toNat)
      case atStart => exact ⟨0, Nat.zero_le _, rfl, by simp, HBw.out⟩
      case round =>
        obtain ⟨k, hk, rfl, rfl, hbel⟩ := hrel
        by_cases hlt : k < m
        · obtain ⟨x, hx⟩ : ∃ x, l[k]? = some x := ⟨_, List.getElem?_eq_getElem (by have := HM.out; omega)⟩
          obtain ⟨b, off, rfl, y⟩ := HC.out wr hbel k x hx
          have hxl := HS.out x (List.mem_of_getElem? hx)
          have HT := Lib.hid (fun W => qT_any x hxl W)
          have HX := Lib.hid (cnts_snoc hx P4)
          have hadd : ∀ W : World, (Op.stringOp .add (bs (P4 ++ ((l.take k).map cnt).flatten)) (bs (cnt x))).run Tryd.prog W = .ok (.string (bs (P4 ++ ((l.take (k + 1)).map cnt).flatten))) W := fun W => by
            rw [← HX.out]
            refine add_str _ _ ?_ W
            have h1 := cnts_len 1000000 (l.take k) fun y hy => HS.out y (List.mem_of_mem_take hy)
            have h2 : (cnt x).length = x.length + 4 := by simp [cnt, pack4]
            have h3 : (l.take k).length ≤ 16 := by rw [List.length_take]; omega
            have h4 := HP4.out
            rw [List.length_append, h2, h4]
            have h5 := Nat.mul_le_mul_right (1000000 + 4) h3
            omega
          have HBe := Lib.hid hbel
          clear hbel hx
          generalize bs (P4 ++ ((l.take k).map cnt).flatten) = Q at *
          generalize hQ2 : bs (P4 ++ ((l.take (k + 1)).map cnt).flatten) = Q2 at *
          have HQ2 := Lib.hid hQ2
          clear hQ2
          generalize bs (cnt x) = CX at *
          go_wp2_with (go_at_call 32; with_reducible refine (HT.out _).mono ?_; rintro e w3 ⟨rfl, b3⟩; have hb3 := HBe.out.trans (b3.mono HBe.out.size))
          go_roundw
          case rel => exact ⟨k + 1, by omega, by go_num, by rw [HQ2.out], hb3⟩
          case measure => simp [intOf]; omega
        · have hkm : k = m := by omega
          subst hkm
          have HTk : Hid (l.take k = l) := List.take_of_length_le (by have := HM.out; omega)
          rw [HTk.out]
          have HBe := Lib.hid hbel
          clear hbel hlt
          go_wp2_with fail
          go_ret2
          exact ⟨rfl, HBe.out⟩
  · rw [decide_eq_false h2, Bool.not_false] at q2
    have hw : extsP l = ([], 3) := by unfold extsP; rw [if_pos (by omega)]
    rw [hw]
    clear hw hc hs h2
    generalize l.length = m at *
    go_enter Tryd.func34, Tryd.ntmps34
    go_wp2
    go_ret2
    exact ⟨rfl, Below.refl _ _⟩
end Go.Proofs.YtkdbmfgbokbnfaaDoor
