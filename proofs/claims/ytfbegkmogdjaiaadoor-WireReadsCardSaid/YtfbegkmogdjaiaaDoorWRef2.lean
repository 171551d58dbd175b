/- The document's reader of wire values: Byte, Bool, U32, Text. -/
import Derived.Test.YtfbegkmogdjaiaaDoorWRef
namespace Go.Proofs.YtfbegkmogdjaiaaDoor
open Go.RowKit

theorem qByte_any {w : World} {Q : Nat} {rest : List UInt8} {err : Int} (h : QAt w Q rest err) (hr : rest.length ≤ 1000000) :
    Calls Tryd.prog 11 #[.pointer (some ⟨Q, 0, none⟩)] w fun e w' => e = .returned (.int .u8 ((byteP rest err).1 : Int)) ∧ QAt w' Q (byteP rest err).2.1 (byteP rest err).2.2 ∧ Moves (fun k => k = Q) w w' := by
  have hf := qBytes_any h hr 1
  unfold byteP
  have hl := fixedP_len anyR 1 rest err
  simp only [Int.cast_ofNat_Int] at hl
  generalize fixedP anyR 1 rest err = p at *
  obtain ⟨l, r, e0⟩ := p
  simp only at hf hl ⊢
  have HF := Lib.hid hf
  clear hf h hr
  cases l with
  | nil =>
    rw [show bs ([] : List UInt8) = ⟨#[]⟩ from rfl] at HF
    go_enter Tryd.func11, Tryd.ntmps11
    go_wp2_with (go_at_call 21; refine HF.out.mono ?_; rintro e w1 ⟨rfl, h1, h2⟩)
    go_ret
    exact ⟨rfl, h1, h2⟩
  | cons b l =>
    have hi0 : ∀ W : World, (Instr.index 9 (.string (bs (b :: l))) (.int .i64 0)).run Tryd.prog W = .ok (.int .u8 (b.toNat : Int)) W := fun W => index_bs (b :: l) 0 (by simp) W
    have hsz := bs_size (b :: l)
    simp only [List.length_cons] at hsz hl
    have hq : (bs (b :: l)).size = 1 := by omega
    have HB : Hid ((hd0 (b :: l)).toNat = b.toNat) := rfl
    clear hsz hl
    generalize bs (b :: l) = B at *
    generalize b.toNat = n at *
    go_enter Tryd.func11, Tryd.ntmps11
    go_wp2_with (go_at_call 21; refine HF.out.mono ?_; rintro e w1 ⟨rfl, h1, h2⟩)
    go_ret
    exact ⟨by rw [HB.out]; rfl, h1, h2⟩

theorem qU32_any {w : World} {Q : Nat} {rest : List UInt8} {err : Int} (h : QAt w Q rest err) (hr : rest.length ≤ 1000000) :
    Calls Tryd.prog 15 #[.pointer (some ⟨Q, 0, none⟩)] w fun e w' => e = .returned (.int .u32 ((u32Q rest err).1 : Int)) ∧ QAt w' Q (u32Q rest err).2.1 (u32Q rest err).2.2 ∧ Moves (fun k => k = Q) w w' := by
  have hf := qBytes_any h hr 4
  have hl : (fixedP anyR 4 rest err).1.length ≤ 4 := fixedP_len anyR 4 rest err
  have hlt := u32Q_lt rest err
  unfold u32Q at *
  generalize fixedP anyR 4 rest err = p at *
  obtain ⟨l, r, e0⟩ := p
  simp only at hf hl hlt ⊢
  have HF := Lib.hid hf
  have HV := Lib.hid (fun W => qValue_any l hl W)
  clear hf h hr hl
  generalize numL l = n at *
  generalize bs l = B at *
  go_enter Tryd.func15, Tryd.ntmps15
  go_wp2_with (first
    | (go_at_call 21; refine HF.out.mono ?_; rintro e w1 ⟨rfl, h1, h2⟩)
    | (go_at_call 45; refine (HV.out _).mono ?_; rintro e w2 ⟨rfl, rfl⟩))
  go_ret
  exact ⟨rfl, h1, h2⟩

theorem boolP_big {b : UInt8} {r : List UInt8} (h : 1 < b.toNat) : boolP (b :: r) 0 = (false, b :: r, 3) := by
  have : fixedP boolR 1 (b :: r) 0 = ([], b :: r, 3) := by
    unfold fixedP
    rw [if_neg (by simp), if_neg (by simp; omega)]
    have : boolR ((b :: r).take (1 : Int).toNat) = false := by
      show decide (b.toNat ≤ 1) = false
      exact decide_eq_false (by omega)
    rw [if_neg (by rw [this]; simp)]
  unfold boolP
  rw [this]
  rfl
theorem fixedP_some (right : List UInt8 → Bool) (b : UInt8) (r : List UInt8) : fixedP right 1 (b :: r) 0 = if right [b] then ([b], r, 0) else ([], b :: r, 3) := by
  unfold fixedP
  rw [if_neg (by simp), if_neg (by simp; omega)]
  rfl
theorem boolP_small {rest : List UInt8} {err : Int} (h : err ≠ 0 ∨ rest = [] ∨ (hd0 rest).toNat ≤ 1) : boolP rest err = (decide ((byteP rest err).1 = 1), (byteP rest err).2) := by
  have : fixedP boolR 1 rest err = fixedP anyR 1 rest err := by
    by_cases h0 : err = 0
    · subst h0
      cases rest with
      | nil => rfl
      | cons b r =>
        have hb : b.toNat ≤ 1 := by
          rcases h with h | h | h
          · exact absurd rfl h
          · cases h
          · exact h
        rw [fixedP_some, fixedP_some, if_pos (show anyR [b] = true from rfl), if_pos (show boolR [b] = true from decide_eq_true hb)]
    · unfold fixedP
      rw [if_pos h0, if_pos h0]
  unfold boolP byteP
  rw [this]

set_option maxRecDepth 100000 in
theorem qBool_any {w : World} {Q : Nat} {rest : List UInt8} {err : Int} (h : QAt w Q rest err) (hr : rest.length ≤ 1000000) :
    Calls Tryd.prog 13 #[.pointer (some ⟨Q, 0, none⟩)] w fun e w' => e = .returned (.bool (boolP rest err).1) ∧ QAt w' Q (boolP rest err).2.1 (boolP rest err).2.2 ∧ Moves (fun k => k = Q) w w' := by
  have hB := qByte_any h hr
  have c0 := Holds.cell h 0
  have c1 := Holds.cell h 1
  have f1 := Holds.frozen h 1
  have H0 := Lib.hid h
  have HD : Hid (∀ n : Nat, ((n : Int) == 1) = decide (n = 1)) := fun n => by
    by_cases hq : n = 1
    · simp [hq]
    · rw [decide_eq_false hq, beq_eq_false_iff_ne]
      omega
  clear h
  by_cases h0 : err = 0
  · subst h0
    cases rest with
    | nil =>
      have HP := Lib.hid (boolP_small (rest := []) (err := 0) (.inr (.inl rfl)))
      rw [show bs ([] : List UInt8) = ⟨#[]⟩ from rfl] at c0
      have HB := Lib.hid hB
      clear hB
      generalize byteP [] 0 = p at *
      obtain ⟨n, r, e0⟩ := p
      simp only at HB HP
      go_enter Tryd.func13, Tryd.ntmps13
      go_wp2_with (go_at_call 11; refine HB.out.mono ?_; rintro e w1 ⟨rfl, h1, h2⟩)
      go_ret
      exact ⟨by rw [HP.out]; simp only; rw [← HD.out]; rfl, by rw [HP.out]; exact h1, h2⟩
    | cons b r =>
      have hi0 : ∀ W : World, (Instr.index 9 (.string (bs (b :: r))) (.int .i64 0)).run Tryd.prog W = .ok (.int .u8 (b.toNat : Int)) W := fun W => index_bs (b :: r) 0 (by simp) W
      have hsz := bs_size (b :: r)
      simp only [List.length_cons] at hsz
      have hpos : 0 < (bs (b :: r)).size := by omega
      by_cases hb : 1 < b.toNat
      · have HP := Lib.hid (boolP_big (r := r) hb)
        have hq : decide ((b.toNat : Int) > 1) = true := decide_eq_true (by omega)
        clear hsz hB hr
        have hb' : (b.toNat : Int) > 1 := by omega
        have HS := Lib.hid hb
        clear hb
        obtain ⟨S, hS⟩ : ∃ S, S = bs (b :: r) := ⟨_, rfl⟩
        rw [← hS] at hi0 hpos c0
        clear hS
        generalize b.toNat = n at *
        go_enter Tryd.func13, Tryd.ntmps13
        go_wp2
        go_ret
        exact ⟨by rw [HP.out]; rfl, by rw [HP.out]; exact Holds.set H0.out 1 _, (Moves.refl (fun k => k = Q) _).setCell (p := ⟨Q, 1, none⟩) (.inl rfl) _⟩
      · have HP := Lib.hid (boolP_small (rest := b :: r) (err := 0) (.inr (.inr (by show b.toNat ≤ 1; omega))))
        have hq : decide ((b.toNat : Int) > 1) = false := decide_eq_false (by omega)
        have HB := Lib.hid hB
        clear hsz hB hr hb
        generalize byteP (b :: r) 0 = p at *
        obtain ⟨m, r', e0⟩ := p
        simp only at HB HP
        generalize bs (b :: r) = S at *
        generalize b.toNat = n at *
        go_enter Tryd.func13, Tryd.ntmps13
        go_wp2_with (go_at_call 11; refine HB.out.mono ?_; rintro e w1 ⟨rfl, h1, h2⟩)
        go_ret
        exact ⟨by rw [HP.out]; simp only; rw [← HD.out]; rfl, by rw [HP.out]; exact h1, h2⟩
  · have HP := Lib.hid (boolP_small (rest := rest) (err := err) (.inl h0))
    have hq : (err == 0) = false := by simpa using h0
    have HB := Lib.hid hB
    clear hB h0 hr
    generalize byteP rest err = p at *
    obtain ⟨m, r', e0⟩ := p
    simp only at HB HP
    generalize bs rest = S at *
    go_enter Tryd.func13, Tryd.ntmps13
    go_wp2_with (go_at_call 11; refine HB.out.mono ?_; rintro e w1 ⟨rfl, h1, h2⟩)
    go_ret
    exact ⟨by rw [HP.out]; simp only; rw [← HD.out]; rfl, by rw [HP.out]; exact h1, h2⟩

theorem countedP_err (right : List UInt8 → Bool) {rest : List UInt8} {err : Int} (h : err ≠ 0) : countedP right rest err = ([], rest, err) := by
  have h1 : ∀ (g : List UInt8 → Bool) (n : Int), fixedP g n rest err = ([], rest, err) := fun g n => by unfold fixedP; rw [if_pos h]
  have hu : u32Q rest err = (0, rest, err) := by
    unfold u32Q
    rw [h1]
    rfl
  unfold countedP
  rw [hu]
  show (if (fixedP right _ rest err).2.2 = 0 then _ else _) = _
  rw [h1, if_neg h]
theorem countedP_short (right : List UInt8 → Bool) {rest : List UInt8} (h : rest.length < 4) : countedP right rest 0 = ([], rest, 4) := by
  have h1 : fixedP anyR 4 rest 0 = ([], rest, 4) := by
    unfold fixedP
    rw [if_neg (by simp), if_pos (by right; omega)]
  have h2 : ∀ n : Int, fixedP right n rest 4 = ([], rest, 4) := fun n => by unfold fixedP; rw [if_pos (by decide)]
  have hu : u32Q rest 0 = (0, rest, 4) := by
    unfold u32Q
    rw [h1]
    rfl
  unfold countedP
  rw [hu]
  show (if (fixedP right _ rest 4).2.2 = 0 then _ else _) = _
  rw [h2]
  exact if_neg (show ¬ ((4 : Int) = 0) by decide)
theorem u32Q_four {rest : List UInt8} (h : 4 ≤ rest.length) : u32Q rest 0 = (numL (rest.take 4), rest.drop 4, 0) := by
  have h1 : fixedP anyR 4 rest 0 = (rest.take 4, rest.drop 4, 0) := by
    unfold fixedP
    rw [if_neg (by simp), if_neg (by omega)]
    rfl
  unfold u32Q
  rw [h1]
theorem countedP_four (right : List UInt8 → Bool) {rest : List UInt8} (h : 4 ≤ rest.length) : countedP right rest 0 =
    if rest.length - 4 < numL (rest.take 4) then ([], rest, 4) else if right ((rest.drop 4).take (numL (rest.take 4))) then ((rest.drop 4).take (numL (rest.take 4)), (rest.drop 4).drop (numL (rest.take 4)), 0) else ([], rest, 3) := by
  unfold countedP
  rw [u32Q_four h]
  generalize numL (rest.take 4) = n
  show (if (fixedP right (n : Int) (rest.drop 4) 0).2.2 = 0 then fixedP right (n : Int) (rest.drop 4) 0 else ((fixedP right (n : Int) (rest.drop 4) 0).1, rest, (fixedP right (n : Int) (rest.drop 4) 0).2.2)) = _
  have hd : (rest.drop 4).length = rest.length - 4 := List.length_drop
  by_cases hn : rest.length - 4 < n
  · have : fixedP right (n : Int) (rest.drop 4) 0 = ([], rest.drop 4, 4) := by
      unfold fixedP
      rw [if_neg (by simp), if_pos (by right; omega)]
    rw [this, if_pos hn]
    rfl
  · have hf : fixedP right (n : Int) (rest.drop 4) 0 = if right ((rest.drop 4).take n) then ((rest.drop 4).take n, (rest.drop 4).drop n, 0) else ([], rest.drop 4, 3) := by
      unfold fixedP
      rw [if_neg (by simp), if_neg (by omega), Int.toNat_natCast]
    rw [hf, if_neg hn]
    cases right ((rest.drop 4).take n) <;> rfl
theorem countedP_whole (rest : List UInt8) (err : Int) : countedP wholeR rest err = if (countedP anyR rest err).2.2 = 0 ∧ wholeR (countedP anyR rest err).1 = false then ([], rest, 3) else countedP anyR rest err := by
  by_cases h0 : err = 0
  · subst h0
    by_cases h4 : rest.length < 4
    · rw [countedP_short _ h4, countedP_short _ h4, if_neg (by simp)]
    · rw [countedP_four _ (by omega), countedP_four _ (by omega)]
      by_cases hn : rest.length - 4 < numL (rest.take 4)
      · rw [if_pos hn, if_pos hn, if_neg (by simp)]
      · rw [if_neg hn, if_neg hn, if_pos (show anyR _ = true from rfl)]
        generalize (rest.drop 4).take (numL (rest.take 4)) = A
        cases hw : wholeR A
        · rw [if_neg (by simp), if_pos ⟨rfl, rfl⟩]
        · rw [if_pos rfl, if_neg (fun h => by simp at h)]
  · rw [countedP_err _ h0, countedP_err _ h0, if_neg (fun h => h0 h.1)]
end Go.Proofs.YtfbegkmogdjaiaaDoor
