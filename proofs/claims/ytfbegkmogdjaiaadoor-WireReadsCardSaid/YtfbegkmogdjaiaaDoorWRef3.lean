/- The document's reader of wire values: Text, Whole. -/
import Derived.Test.YtfbegkmogdjaiaaDoorWRef2
namespace Go.Proofs.YtfbegkmogdjaiaaDoor
open Go.RowKit

theorem holds_drewN {w : World} {g : Nat} {t : TypeId} {cs : Array Value} (h : Holds w g t cs) (n : Nat) : Holds (w.drewN n) g t cs := h

set_option maxRecDepth 100000 in
theorem qText_any {w : World} {Q : Nat} {rest : List UInt8} {err : Int} (h : QAt w Q rest err) (hr : rest.length ≤ 1000000) :
    Calls Tryd.prog 17 #[.pointer (some ⟨Q, 0, none⟩)] w fun e w' => e = .returned (.string (bs (countedP anyR rest err).1)) ∧ QAt w' Q (countedP anyR rest err).2.1 (countedP anyR rest err).2.2 ∧ Moves (fun k => k = Q) w w' := by
  have c0 := Holds.cell h 0
  have c1 := Holds.cell h 1
  have f1 := Holds.frozen h 1
  have hsz := bs_size rest
  have H0 := Lib.hid h
  have HE : Hid (bs ([] : List UInt8) = ⟨#[]⟩) := rfl
  clear h
  by_cases h0 : err = 0
  · subst h0
    by_cases h4 : rest.length < 4
    · have HP := Lib.hid (countedP_short anyR h4)
      have hq : decide (((bs rest).size : Int) < 4) = true := decide_eq_true (by omega)
      have hq' : ((bs rest).size : Int) < 4 := by omega
      clear hr h4 hsz
      generalize bs rest = S at *
      go_enter Tryd.func17, Tryd.ntmps17
      go_wp2_with fail
      go_quiet (fail)
      go_wp2_with fail
      go_ret
      exact ⟨by rw [HP.out, HE.out]; rfl, by rw [HP.out]; exact Holds.set (holds_drewN H0.out _) 1 _, (Moves.drewN (Moves.refl (fun k => k = Q) _) _).setCell (p := ⟨Q, 1, none⟩) (.inl rfl) _⟩
    · have hC := countedP_four anyR (rest := rest) (by omega)
      have ht4 : (rest.take 4).length = 4 := by simp; omega
      have t1 := bs_take rest 4
      have HV := Lib.hid (fun (W : World) => qValue_any (rest.take 4) (by omega) W)
      have hq : decide (((bs rest).size : Int) < 4) = false := decide_eq_false (by omega)
      have hb4 : (4 : Int) ≤ (bs rest).size := by omega
      have hb4n : 4 ≤ (bs rest).size := by omega
      have hb2 : (bs rest).size ≤ 1000000 := by omega
      have hnl := numL_lt (rest.take 4) 4 (by omega)
      rw [List.take_of_length_le (by omega)] at hnl
      have hB := Lib.hid (fun (W : World) (hW : QAt W Q rest 0) => qBytes_any hW hr 4)
      have hB1 : fixedP anyR 4 rest 0 = (rest.take 4, rest.drop 4, 0) := by
        unfold fixedP
        rw [if_neg (by simp), if_neg (by omega)]
        rfl
      rw [hB1] at hB
      have hB2 := Lib.hid (fun (W : World) (hW : QAt W Q (rest.drop 4) 0) => qBytes_any hW (by simp; omega) (numL (rest.take 4) : Nat))
      have hd4 : (rest.drop 4).length = rest.length - 4 := List.length_drop
      obtain ⟨n, hn⟩ : ∃ n, n = numL (rest.take 4) := ⟨_, rfl⟩
      rw [← hn] at hC HV hnl hB2
      obtain ⟨St, hst⟩ : ∃ St, St = bs (rest.take 4) := ⟨_, rfl⟩
      rw [← hst] at HV t1 hB
      have HQ4 : Hid (∀ W : World, Calls Tryd.prog 45 #[.string St] W fun e w' => e = .returned (.int .i64 (n : Int)) ∧ w' = W) := HV.out
      have HH : Hid (∀ (m : Nat), QAt (w.drewN m) Q rest 0) := fun m => holds_drewN H0.out m
      by_cases hbig : rest.length - 4 < n
      · have HP : Hid (countedP anyR rest 0 = ([], rest, 4)) := by
          have := hC
          rwa [if_pos hbig] at this
        have hg : decide ((n : Int) > ((bs rest).size : Int) - 4) = true := decide_eq_true (by omega)
        have hg' : (n : Int) > ((bs rest).size : Int) - 4 := by omega
        clear hC hst hn hB1 hB hB2 hr hsz hd4 ht4 h4 hbig HV
        generalize bs rest = S at *
        go_enter Tryd.func17, Tryd.ntmps17
        go_wp2_with fail
        go_quiet (first | (go_at_call 45; refine Calls.quiet_of_same (HQ4.out _)))
        go_wp2_with fail
        go_ret
        exact ⟨by rw [HP.out, HE.out]; rfl, by rw [HP.out]; exact Holds.set (holds_drewN H0.out _) 1 _, (Moves.drewN (Moves.refl (fun k => k = Q) _) _).setCell (p := ⟨Q, 1, none⟩) (.inl rfl) _⟩
      · have hf : fixedP anyR (n : Int) (rest.drop 4) 0 = ((rest.drop 4).take n, (rest.drop 4).drop n, 0) := by
          unfold fixedP
          rw [if_neg (by simp), if_neg (by omega), Int.toNat_natCast]
          rfl
        have HP : Hid (countedP anyR rest 0 = ((rest.drop 4).take n, (rest.drop 4).drop n, 0)) := by
          have := hC
          rw [if_neg hbig] at this
          exact this
        rw [hf] at hB2
        have hg : decide ((n : Int) > ((bs rest).size : Int) - 4) = false := decide_eq_false (by omega)
        clear hC hst hn hB1 hr hsz hd4 ht4 h4 hbig HV hf
        generalize hS : bs rest = S at *
        have HS := Lib.hid hS
        clear hS
        go_enter Tryd.func17, Tryd.ntmps17
        go_wp2_with fail
        go_quiet (first | (go_at_call 45; refine Calls.quiet_of_same (HQ4.out _)))
        go_wp2_with (first
          | (go_at_call 21; have hh1 := h1; with_reducible refine (hB2.out _ h1).mono ?_; rintro e w3 ⟨rfl, h3, m3⟩)
          | (go_at_call 21; with_reducible refine (hB.out _ (HH.out _)).mono ?_; rintro e w1 ⟨rfl, h1, m1⟩)
          | (go_at_call 45; refine (HQ4.out _).mono ?_; rintro e w2 ⟨rfl, rfl⟩))
        go_ret
        exact ⟨by rw [HP.out]; rfl, by rw [HP.out]; exact h3, ((Moves.drewN (Moves.refl (fun k => k = Q) _) _).trans m1 fun i hi => .inl hi).trans m3 fun i hi => .inl hi⟩
  · have HP := Lib.hid (countedP_err anyR (rest := rest) h0)
    have hq : (err != 0) = true := by simpa using h0
    clear hr hsz
    go_enter Tryd.func17, Tryd.ntmps17
    go_wp2
    go_ret
    exact ⟨by rw [HP.out, HE.out]; rfl, by rw [HP.out]; exact H0.out, Moves.refl _ _⟩

theorem qB_zero (w : World) : Calls Tryd.prog 58 #[.int .u8 0] w fun e w' => e = .returned (.string (bs [0])) ∧ Below w.heap.size w w' := by
  have hcv := run_string_new w [0] (by simp) #[.int .u8 0] (by simp [byteCells])
  simp only [List.length_cons, List.length_nil] at hcv
  generalize bs [0] = B at *
  go_enter Tryd.func58, Tryd.ntmps58
  go_wp2
  go_ret
  exact ⟨rfl, (Below.refl _ _).alloc (Nat.le_refl _) _⟩

theorem qT_any (l : List UInt8) (hl : l.length ≤ 1000000) (w : World) : Calls Tryd.prog 50 #[.string (bs l)] w fun e w' => e = .returned (.string (bs (cnt l))) ∧ Below w.heap.size w w' := by
  have hsz := bs_size l
  have HE : Hid (bs (pack4 l.length) ++ bs l = bs (cnt l)) := bs_append _ _
  have hp : (bs (pack4 l.length)).size ≤ 4 := by rw [bs_size]; simp [pack4]
  have HU := Lib.hid (fun W => refU32_any l.length (by omega) W)
  rw [← hsz] at HU hp HE
  have hl2 : (bs l).size ≤ 1000000 := by omega
  clear hsz hl
  generalize bs l = B at *
  generalize hS : bs (pack4 B.size) = P at *
  have HS := Lib.hid hS
  clear hS
  go_enter Tryd.func50, Tryd.ntmps50
  go_wp2_with (go_at_call 59; refine (HU.out _).mono ?_; rintro e w' ⟨rfl, hb⟩)
  go_ret
  exact ⟨by rw [← HE.out]; rfl, hb⟩
end Go.Proofs.YtfbegkmogdjaiaaDoor
