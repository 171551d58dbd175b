/- Part 29 of what the statement wants. -/
import Derived.Deep.QuietTactic
import Derived.BigQuiet
import Derived.Test.YtkmhdepohcncaaaGreatDoorPk00
import Derived.Test.YtkmhdepohcncaaaGreatDoorPk01
import Derived.Test.YtkmhdepohcncaaaGreatDoorPk23
import Derived.Test.YtkmhdepohcncaaaGreatDoorPk27
namespace Go.Proofs.YtkmhdepohcncaaaGreatDoor
open Go.RowKit

def QAt (w : World) (Q : Nat) (rest : List UInt8) (err : Int) : Prop := Holds w Q 170 #[.string (bs rest), .int .i64 err]

set_option maxRecDepth 100000 in
theorem qValue_any (l : List UInt8) (hl : l.length ≤ 4) (w : World) : Calls Tryz.prog 206 #[.string (bs l)] w fun e w' => e = .returned (.int .i64 (numL l : Int)) ∧ w' = w := by
  have hsz := bs_size l
  have HI := Lib.hid (fun (k : Nat) (hk : k < l.length) W => index_bs l k hk W)
  generalize bs l = B at *
  go_enter Tryz.func206, Tryz.ntmps206
  go_wp2_with fail
  go_loopw [3, 4] (fun n i wr => ∃ k : Nat, k ≤ l.length ∧ n = .int .i64 (numL (l.take k) : Int) ∧ i = .int .i64 k ∧ wr = w) (fun _ i _ => l.length - (intOf i).toNat)
  case atStart => exact ⟨0, Nat.zero_le _, rfl, rfl, rfl⟩
  case round =>
    obtain ⟨k, hk, rfl, rfl, rfl⟩ := hrel
    by_cases hlt : k < l.length
    · have hix := HI.out k hlt
      have hb := UInt8.toNat_lt l[k]
      have hn : numL (l.take k) < 16777216 := by
        have := numL_lt l k hk
        have : 256 ^ k ≤ 256 ^ 3 := Nat.pow_le_pow_right (by omega) (by omega)
        omega
      have HT := Lib.hid (numL_take l hlt)
      clear HI
      generalize numL (l.take k) = n at *
      generalize (l[k]'hlt).toNat = b at *
      go_wp2_with fail
      go_roundw
      case rel =>
        refine ⟨k + 1, by omega, ?_, by go_num, trivial⟩
        rw [HT.out]
        simp
        omega
      case measure => simp [intOf]; omega
    · have hkl : k = l.length := by omega
      subst hkl
      rw [List.take_length]
      clear hlt HI
      go_wp2_with fail
      go_ret
      exact ⟨rfl, rfl⟩

theorem qEnd_any {w : World} {Q : Nat} {rest : List UInt8} {err : Int} (h : QAt w Q rest err) : Calls Tryz.prog 127 #[.pointer (some ⟨Q, 0, none⟩)] w fun e w' => e = .returned (.int .i64 (endP rest err)) ∧ w' = w := by
  have c0 := Holds.cell h 0
  have c1 := Holds.cell h 1
  have hsz := bs_size rest
  clear h
  by_cases h0 : err = 0
  · subst h0
    by_cases h1 : rest = []
    · have HE : Hid (endP rest 0 = 0) := by subst h1; rfl
      have hz : (bs rest).size = 0 := by rw [hsz, h1]; rfl
      clear hsz h1
      generalize bs rest = S at *
      go_enter Tryz.func127, Tryz.ntmps127
      go_wp2
      go_ret
      exact ⟨by rw [HE.out]; rfl, rfl⟩
    · have HE : Hid (endP rest 0 = 3) := by
        show endP rest 0 = 3
        simp [endP, h1]
      have hz : 0 < (bs rest).size := by
        rw [hsz]
        exact List.length_pos_iff.2 h1
      clear hsz h1
      generalize bs rest = S at *
      go_enter Tryz.func127, Tryz.ntmps127
      go_wp2
      go_ret
      exact ⟨by rw [HE.out]; rfl, rfl⟩
  · have HE : Hid (endP rest err = err) := if_pos h0
    have hq : (err == 0) = false := by simpa using h0
    clear hsz
    generalize bs rest = S at *
    go_enter Tryz.func127, Tryz.ntmps127
    go_wp2
    go_ret
    exact ⟨by rw [HE.out]; rfl, rfl⟩

theorem qBytes_any {w : World} {Q : Nat} {rest : List UInt8} {err : Int} (h : QAt w Q rest err) (hr : rest.length ≤ 1000000) (n : Int) :
    Calls Tryz.prog 166 #[.pointer (some ⟨Q, 0, none⟩), .int .i64 n] w fun e w' => e = .returned (.string (bs (fixedP anyR n rest err).1)) ∧ QAt w' Q (fixedP anyR n rest err).2.1 (fixedP anyR n rest err).2.2 ∧ Moves (fun k => k = Q) w w' := by
  have c0 := Holds.cell h 0
  have c1 := Holds.cell h 1
  have f0 := Holds.frozen h 0
  have f1 := Holds.frozen h 1
  have hsz := bs_size rest
  have H0 := Lib.hid h
  have HE : Hid (bs ([] : List UInt8) = ⟨#[]⟩) := rfl
  clear h
  by_cases h0 : err = 0
  · subst h0
    by_cases h1 : n < 0 ∨ (rest.length : Int) < n
    · have HP : Hid (fixedP anyR n rest 0 = ([], rest, 4)) := by
        show fixedP anyR n rest 0 = _
        unfold fixedP
        rw [if_neg (by simp), if_pos h1]
      generalize bs rest = S at *
      by_cases h2 : n < 0
      · go_enter Tryz.func166, Tryz.ntmps166
        go_wp2
        go_ret
        exact ⟨by rw [HP.out, HE.out]; rfl, by rw [HP.out]; exact Holds.set H0.out 1 _, (Moves.refl (fun k => k = Q) _).setCell (p := ⟨Q, 1, none⟩) (.inl rfl) _⟩
      · have h3 : (rest.length : Int) < n := h1.resolve_left h2
        go_enter Tryz.func166, Tryz.ntmps166
        go_wp2
        go_ret
        exact ⟨by rw [HP.out, HE.out]; rfl, by rw [HP.out]; exact Holds.set H0.out 1 _, (Moves.refl (fun k => k = Q) _).setCell (p := ⟨Q, 1, none⟩) (.inl rfl) _⟩
    · obtain ⟨m, rfl⟩ : ∃ m : Nat, n = m := ⟨n.toNat, by omega⟩
      have hml : m ≤ rest.length := by omega
      have t1 := bs_take rest m
      have t2 := bs_drop rest m
      have HP : Hid (fixedP anyR m rest 0 = (rest.take m, rest.drop m, 0)) := by
        show fixedP anyR m rest 0 = _
        unfold fixedP
        rw [if_neg (by simp), if_neg h1, Int.toNat_natCast]
        rfl
      have hb : m ≤ (bs rest).size := by omega
      have hb2 : (bs rest).size ≤ 1000000 := by omega
      obtain ⟨St, hst⟩ : ∃ St, St = bs (rest.take m) := ⟨_, rfl⟩
      obtain ⟨Sd, hsd⟩ : ∃ Sd, Sd = bs (rest.drop m) := ⟨_, rfl⟩
      rw [← hst] at t1
      rw [← hsd] at t2
      have HST := Lib.hid hst
      have HSD := Lib.hid hsd
      have HR : Hid (∀ (W : World) (r' : List UInt8) (S' : ByteArray), S' = bs r' → Holds (W) Q 170 #[.string S', .int .i64 0] → QAt W Q r' 0) := fun W r' S' hS hh => by subst hS; exact hh
      clear h1 hml hsz hst hsd
      generalize hS : bs rest = S at *
      have HS := Lib.hid hS
      clear hS
      go_enter Tryz.func166, Tryz.ntmps166
      go_wp2
      go_ret
      refine ⟨by rw [HP.out, ← HST.out]; rfl, ?_, (Moves.refl (fun k => k = Q) _).setCell (p := ⟨Q, 0, none⟩) (.inl rfl) _⟩
      rw [HP.out]
      exact HR.out _ _ _ HSD.out (Holds.set (HS.out ▸ H0.out : Holds _ Q 170 #[.string S, .int .i64 0]) 0 _)
  · have HP : Hid (fixedP anyR n rest err = ([], rest, err)) := if_pos h0
    have hq : (err != 0) = true := by simpa using h0
    go_enter Tryz.func166, Tryz.ntmps166
    go_wp2
    go_ret
    exact ⟨by rw [HP.out, HE.out]; rfl, by rw [HP.out]; exact H0.out, Moves.refl _ _⟩
end Go.Proofs.YtkmhdepohcncaaaGreatDoor

namespace Go.Proofs.YtkmhdepohcncaaaGreatDoor
open Go.RowKit

theorem qByte_any {w : World} {Q : Nat} {rest : List UInt8} {err : Int} (h : QAt w Q rest err) (hr : rest.length ≤ 1000000) :
    Calls Tryz.prog 205 #[.pointer (some ⟨Q, 0, none⟩)] w fun e w' => e = .returned (.int .u8 ((byteP rest err).1 : Int)) ∧ QAt w' Q (byteP rest err).2.1 (byteP rest err).2.2 ∧ Moves (fun k => k = Q) w w' := by
  have hf := qBytes_any h hr 1
  unfold byteP
  have hl := fixedP_len anyR 1 rest err
  simp only [Int.cast_ofNat_Int] at hl
  generalize fixedP anyR 1 rest err = p at *
  obtain ⟨l, r, e0⟩ := p
  simp only at hf hl ⊢
  have HF := Lib.hid hf
  clear hf h hr
  cases l with
  | nil =>
    rw [show bs ([] : List UInt8) = ⟨#[]⟩ from rfl] at HF
    go_enter Tryz.func205, Tryz.ntmps205
    go_wp2_with (go_at_call 166; refine HF.out.mono ?_; rintro e w1 ⟨rfl, h1, h2⟩)
    go_ret
    exact ⟨rfl, h1, h2⟩
  | cons b l =>
    have hi0 : ∀ W : World, (Instr.index 9 (.string (bs (b :: l))) (.int .i64 0)).run Tryz.prog W = .ok (.int .u8 (b.toNat : Int)) W := fun W => index_bs (b :: l) 0 (by simp) W
    have hsz := bs_size (b :: l)
    simp only [List.length_cons] at hsz hl
    have hq : (bs (b :: l)).size = 1 := by omega
    have HB : Hid ((hd0 (b :: l)).toNat = b.toNat) := rfl
    clear hsz hl
    generalize bs (b :: l) = B at *
    generalize b.toNat = n at *
    go_enter Tryz.func205, Tryz.ntmps205
    go_wp2_with (go_at_call 166; refine HF.out.mono ?_; rintro e w1 ⟨rfl, h1, h2⟩)
    go_ret
    exact ⟨by rw [HB.out]; rfl, h1, h2⟩

theorem qU32_any {w : World} {Q : Nat} {rest : List UInt8} {err : Int} (h : QAt w Q rest err) (hr : rest.length ≤ 1000000) :
    Calls Tryz.prog 162 #[.pointer (some ⟨Q, 0, none⟩)] w fun e w' => e = .returned (.int .u32 ((u32Q rest err).1 : Int)) ∧ QAt w' Q (u32Q rest err).2.1 (u32Q rest err).2.2 ∧ Moves (fun k => k = Q) w w' := by
  have hf := qBytes_any h hr 4
  have hl : (fixedP anyR 4 rest err).1.length ≤ 4 := fixedP_len anyR 4 rest err
  have hlt := u32Q_lt rest err
  unfold u32Q at *
  generalize fixedP anyR 4 rest err = p at *
  obtain ⟨l, r, e0⟩ := p
  simp only at hf hl hlt ⊢
  have HF := Lib.hid hf
  have HV := Lib.hid (fun W => qValue_any l hl W)
  clear hf h hr hl
  generalize numL l = n at *
  generalize bs l = B at *
  go_enter Tryz.func162, Tryz.ntmps162
  go_wp2_with (first
    | (go_at_call 166; refine HF.out.mono ?_; rintro e w1 ⟨rfl, h1, h2⟩)
    | (go_at_call 206; refine (HV.out _).mono ?_; rintro e w2 ⟨rfl, rfl⟩))
  go_ret
  exact ⟨rfl, h1, h2⟩

theorem boolP_big {b : UInt8} {r : List UInt8} (h : 1 < b.toNat) : boolP (b :: r) 0 = (false, b :: r, 3) := by
  have : fixedP boolR 1 (b :: r) 0 = ([], b :: r, 3) := by
    unfold fixedP
    rw [if_neg (by simp), if_neg (by simp; omega)]
    have : boolR ((b :: r).take (1 : Int).toNat) = false := by
      show decide (b.toNat ≤ 1) = false
      exact decide_eq_false (by omega)
    rw [if_neg (by rw [this]; simp)]
  unfold boolP
  rw [this]
  rfl
theorem fixedP_some (right : List UInt8 → Bool) (b : UInt8) (r : List UInt8) : fixedP right 1 (b :: r) 0 = if right [b] then ([b], r, 0) else ([], b :: r, 3) := by
  unfold fixedP
  rw [if_neg (by simp), if_neg (by simp; omega)]
  rfl
theorem boolP_small {rest : List UInt8} {err : Int} (h : err ≠ 0 ∨ rest = [] ∨ (hd0 rest).toNat ≤ 1) : boolP rest err = (decide ((byteP rest err).1 = 1), (byteP rest err).2) := by
  have : fixedP boolR 1 rest err = fixedP anyR 1 rest err := by
    by_cases h0 : err = 0
    · subst h0
      cases rest with
      | nil => rfl
      | cons b r =>
        have hb : b.toNat ≤ 1 := by
          rcases h with h | h | h
          · exact absurd rfl h
          · cases h
          · exact h
        rw [fixedP_some, fixedP_some, if_pos (show anyR [b] = true from rfl), if_pos (show boolR [b] = true from decide_eq_true hb)]
    · unfold fixedP
      rw [if_pos h0, if_pos h0]
  unfold boolP byteP
  rw [this]

set_option maxRecDepth 100000 in
theorem qBool_any {w : World} {Q : Nat} {rest : List UInt8} {err : Int} (h : QAt w Q rest err) (hr : rest.length ≤ 1000000) :
    Calls Tryz.prog 161 #[.pointer (some ⟨Q, 0, none⟩)] w fun e w' => e = .returned (.bool (boolP rest err).1) ∧ QAt w' Q (boolP rest err).2.1 (boolP rest err).2.2 ∧ Moves (fun k => k = Q) w w' := by
  have hB := qByte_any h hr
  have c0 := Holds.cell h 0
  have c1 := Holds.cell h 1
  have f1 := Holds.frozen h 1
  have H0 := Lib.hid h
  have HD : Hid (∀ n : Nat, ((n : Int) == 1) = decide (n = 1)) := fun n => by
    by_cases hq : n = 1
    · simp [hq]
    · rw [decide_eq_false hq, beq_eq_false_iff_ne]
      omega
  clear h
  by_cases h0 : err = 0
  · subst h0
    cases rest with
    | nil =>
      have HP := Lib.hid (boolP_small (rest := []) (err := 0) (.inr (.inl rfl)))
      rw [show bs ([] : List UInt8) = ⟨#[]⟩ from rfl] at c0
      have HB := Lib.hid hB
      clear hB
      generalize byteP [] 0 = p at *
      obtain ⟨n, r, e0⟩ := p
      simp only at HB HP
      go_enter Tryz.func161, Tryz.ntmps161
      go_wp2_with (go_at_call 205; refine HB.out.mono ?_; rintro e w1 ⟨rfl, h1, h2⟩)
      go_ret
      exact ⟨by rw [HP.out]; simp only; rw [← HD.out]; rfl, by rw [HP.out]; exact h1, h2⟩
    | cons b r =>
      have hi0 : ∀ W : World, (Instr.index 9 (.string (bs (b :: r))) (.int .i64 0)).run Tryz.prog W = .ok (.int .u8 (b.toNat : Int)) W := fun W => index_bs (b :: r) 0 (by simp) W
      have hsz := bs_size (b :: r)
      simp only [List.length_cons] at hsz
      have hpos : 0 < (bs (b :: r)).size := by omega
      by_cases hb : 1 < b.toNat
      · have HP := Lib.hid (boolP_big (r := r) hb)
        have hq : decide ((b.toNat : Int) > 1) = true := decide_eq_true (by omega)
        clear hsz hB hr
        have hb' : (b.toNat : Int) > 1 := by omega
        have HS := Lib.hid hb
        clear hb
        obtain ⟨S, hS⟩ : ∃ S, S = bs (b :: r) := ⟨_, rfl⟩
        rw [← hS] at hi0 hpos c0
        clear hS
        generalize b.toNat = n at *
        go_enter Tryz.func161, Tryz.ntmps161
        go_wp2
        go_ret
        exact ⟨by rw [HP.out]; rfl, by rw [HP.out]; exact Holds.set H0.out 1 _, (Moves.refl (fun k => k = Q) _).setCell (p := ⟨Q, 1, none⟩) (.inl rfl) _⟩
      · have HP := Lib.hid (boolP_small (rest := b :: r) (err := 0) (.inr (.inr (by show b.toNat ≤ 1; omega))))
        have hq : decide ((b.toNat : Int) > 1) = false := decide_eq_false (by omega)
        have HB := Lib.hid hB
        clear hsz hB hr hb
        generalize byteP (b :: r) 0 = p at *
        obtain ⟨m, r', e0⟩ := p
        simp only at HB HP
        generalize bs (b :: r) = S at *
        generalize b.toNat = n at *
        go_enter Tryz.func161, Tryz.ntmps161
        go_wp2_with (go_at_call 205; refine HB.out.mono ?_; rintro e w1 ⟨rfl, h1, h2⟩)
        go_ret
        exact ⟨by rw [HP.out]; simp only; rw [← HD.out]; rfl, by rw [HP.out]; exact h1, h2⟩
  · have HP := Lib.hid (boolP_small (rest := rest) (err := err) (.inl h0))
    have hq : (err == 0) = false := by simpa using h0
    have HB := Lib.hid hB
    clear hB h0 hr
    generalize byteP rest err = p at *
    obtain ⟨m, r', e0⟩ := p
    simp only at HB HP
    generalize bs rest = S at *
    go_enter Tryz.func161, Tryz.ntmps161
    go_wp2_with (go_at_call 205; refine HB.out.mono ?_; rintro e w1 ⟨rfl, h1, h2⟩)
    go_ret
    exact ⟨by rw [HP.out]; simp only; rw [← HD.out]; rfl, by rw [HP.out]; exact h1, h2⟩

theorem countedP_err (right : List UInt8 → Bool) {rest : List UInt8} {err : Int} (h : err ≠ 0) : countedP right rest err = ([], rest, err) := by
  have h1 : ∀ (g : List UInt8 → Bool) (n : Int), fixedP g n rest err = ([], rest, err) := fun g n => by unfold fixedP; rw [if_pos h]
  have hu : u32Q rest err = (0, rest, err) := by
    unfold u32Q
    rw [h1]
    rfl
  unfold countedP
  rw [hu]
  show (if (fixedP right _ rest err).2.2 = 0 then _ else _) = _
  rw [h1, if_neg h]
theorem countedP_short (right : List UInt8 → Bool) {rest : List UInt8} (h : rest.length < 4) : countedP right rest 0 = ([], rest, 4) := by
  have h1 : fixedP anyR 4 rest 0 = ([], rest, 4) := by
    unfold fixedP
    rw [if_neg (by simp), if_pos (by right; omega)]
  have h2 : ∀ n : Int, fixedP right n rest 4 = ([], rest, 4) := fun n => by unfold fixedP; rw [if_pos (by decide)]
  have hu : u32Q rest 0 = (0, rest, 4) := by
    unfold u32Q
    rw [h1]
    rfl
  unfold countedP
  rw [hu]
  show (if (fixedP right _ rest 4).2.2 = 0 then _ else _) = _
  rw [h2]
  exact if_neg (show ¬ ((4 : Int) = 0) by decide)
theorem u32Q_four {rest : List UInt8} (h : 4 ≤ rest.length) : u32Q rest 0 = (numL (rest.take 4), rest.drop 4, 0) := by
  have h1 : fixedP anyR 4 rest 0 = (rest.take 4, rest.drop 4, 0) := by
    unfold fixedP
    rw [if_neg (by simp), if_neg (by omega)]
    rfl
  unfold u32Q
  rw [h1]
theorem countedP_four (right : List UInt8 → Bool) {rest : List UInt8} (h : 4 ≤ rest.length) : countedP right rest 0 =
    if rest.length - 4 < numL (rest.take 4) then ([], rest, 4) else if right ((rest.drop 4).take (numL (rest.take 4))) then ((rest.drop 4).take (numL (rest.take 4)), (rest.drop 4).drop (numL (rest.take 4)), 0) else ([], rest, 3) := by
  unfold countedP
  rw [u32Q_four h]
  generalize numL (rest.take 4) = n
  show (if (fixedP right (n : Int) (rest.drop 4) 0).2.2 = 0 then fixedP right (n : Int) (rest.drop 4) 0 else ((fixedP right (n : Int) (rest.drop 4) 0).1, rest, (fixedP right (n : Int) (rest.drop 4) 0).2.2)) = _
  have hd : (rest.drop 4).length = rest.length - 4 := List.length_drop
  by_cases hn : rest.length - 4 < n
  · have : fixedP right (n : Int) (rest.drop 4) 0 = ([], rest.drop 4, 4) := by
      unfold fixedP
      rw [if_neg (by simp), if_pos (by right; omega)]
    rw [this, if_pos hn]
    rfl
  · have hf : fixedP right (n : Int) (rest.drop 4) 0 = if right ((rest.drop 4).take n) then ((rest.drop 4).take n, (rest.drop 4).drop n, 0) else ([], rest.drop 4, 3) := by
      unfold fixedP
      rw [if_neg (by simp), if_neg (by omega), Int.toNat_natCast]
    rw [hf, if_neg hn]
    cases right ((rest.drop 4).take n) <;> rfl
theorem countedP_whole (rest : List UInt8) (err : Int) : countedP wholeR rest err = if (countedP anyR rest err).2.2 = 0 ∧ wholeR (countedP anyR rest err).1 = false then ([], rest, 3) else countedP anyR rest err := by
  by_cases h0 : err = 0
  · subst h0
    by_cases h4 : rest.length < 4
    · rw [countedP_short _ h4, countedP_short _ h4, if_neg (by simp)]
    · rw [countedP_four _ (by omega), countedP_four _ (by omega)]
      by_cases hn : rest.length - 4 < numL (rest.take 4)
      · rw [if_pos hn, if_pos hn, if_neg (by simp)]
      · rw [if_neg hn, if_neg hn, if_pos (show anyR _ = true from rfl)]
        generalize (rest.drop 4).take (numL (rest.take 4)) = A
        cases hw : wholeR A
        · rw [if_neg (by simp), if_pos ⟨rfl, rfl⟩]
        · rw [if_pos rfl, if_neg (fun h => by simp at h)]
  · rw [countedP_err _ h0, countedP_err _ h0, if_neg (fun h => h0 h.1)]
end Go.Proofs.YtkmhdepohcncaaaGreatDoor

namespace Go.Proofs.YtkmhdepohcncaaaGreatDoor
open Go.RowKit

theorem holds_drewN {w : World} {g : Nat} {t : TypeId} {cs : Array Value} (h : Holds w g t cs) (n : Nat) : Holds (w.drewN n) g t cs := h

set_option maxRecDepth 100000 in
theorem qText_any {w : World} {Q : Nat} {rest : List UInt8} {err : Int} (h : QAt w Q rest err) (hr : rest.length ≤ 1000000) :
    Calls Tryz.prog 164 #[.pointer (some ⟨Q, 0, none⟩)] w fun e w' => e = .returned (.string (bs (countedP anyR rest err).1)) ∧ QAt w' Q (countedP anyR rest err).2.1 (countedP anyR rest err).2.2 ∧ Moves (fun k => k = Q) w w' := by
  have c0 := Holds.cell h 0
  have c1 := Holds.cell h 1
  have f1 := Holds.frozen h 1
  have hsz := bs_size rest
  have H0 := Lib.hid h
  have HE : Hid (bs ([] : List UInt8) = ⟨#[]⟩) := rfl
  clear h
  by_cases h0 : err = 0
  · subst h0
    by_cases h4 : rest.length < 4
    · have HP := Lib.hid (countedP_short anyR h4)
      have hq : decide (((bs rest).size : Int) < 4) = true := decide_eq_true (by omega)
      have hq' : ((bs rest).size : Int) < 4 := by omega
      clear hr h4 hsz
      generalize bs rest = S at *
      go_enter Tryz.func164, Tryz.ntmps164
      go_wp2_with fail
      go_quiet (fail)
      go_wp2_with fail
      go_ret
      exact ⟨by rw [HP.out, HE.out]; rfl, by rw [HP.out]; exact Holds.set (holds_drewN H0.out _) 1 _, (Moves.drewN (Moves.refl (fun k => k = Q) _) _).setCell (p := ⟨Q, 1, none⟩) (.inl rfl) _⟩
    · have hC := countedP_four anyR (rest := rest) (by omega)
      have ht4 : (rest.take 4).length = 4 := by simp; omega
      have t1 := bs_take rest 4
      have HV := Lib.hid (fun (W : World) => qValue_any (rest.take 4) (by omega) W)
      have hq : decide (((bs rest).size : Int) < 4) = false := decide_eq_false (by omega)
      have hb4 : (4 : Int) ≤ (bs rest).size := by omega
      have hb4n : 4 ≤ (bs rest).size := by omega
      have hb2 : (bs rest).size ≤ 1000000 := by omega
      have hnl := numL_lt (rest.take 4) 4 (by omega)
      rw [List.take_of_length_le (by omega)] at hnl
      have hB := Lib.hid (fun (W : World) (hW : QAt W Q rest 0) => qBytes_any hW hr 4)
      have hB1 : fixedP anyR 4 rest 0 = (rest.take 4, rest.drop 4, 0) := by
        unfold fixedP
        rw [if_neg (by simp), if_neg (by omega)]
        rfl
      rw [hB1] at hB
      have hB2 := Lib.hid (fun (W : World) (hW : QAt W Q (rest.drop 4) 0) => qBytes_any hW (by simp; omega) (numL (rest.take 4) : Nat))
      have hd4 : (rest.drop 4).length = rest.length - 4 := List.length_drop
      obtain ⟨n, hn⟩ : ∃ n, n = numL (rest.take 4) := ⟨_, rfl⟩
      rw [← hn] at hC HV hnl hB2
      obtain ⟨St, hst⟩ : ∃ St, St = bs (rest.take 4) := ⟨_, rfl⟩
      rw [← hst] at HV t1 hB
      have HQ4 : Hid (∀ W : World, Calls Tryz.prog 206 #[.string St] W fun e w' => e = .returned (.int .i64 (n : Int)) ∧ w' = W) := HV.out
      have HH : Hid (∀ (m : Nat), QAt (w.drewN m) Q rest 0) := fun m => holds_drewN H0.out m
      by_cases hbig : rest.length - 4 < n
      · have HP : Hid (countedP anyR rest 0 = ([], rest, 4)) := by
          have := hC
          rwa [if_pos hbig] at this
        have hg : decide ((n : Int) > ((bs rest).size : Int) - 4) = true := decide_eq_true (by omega)
        have hg' : (n : Int) > ((bs rest).size : Int) - 4 := by omega
        clear hC hst hn hB1 hB hB2 hr hsz hd4 ht4 h4 hbig HV
        generalize bs rest = S at *
        go_enter Tryz.func164, Tryz.ntmps164
        go_wp2_with fail
        go_quiet (first | (go_at_call 206; refine Calls.quiet_of_same (HQ4.out _)))
        go_wp2_with fail
        go_ret
        exact ⟨by rw [HP.out, HE.out]; rfl, by rw [HP.out]; exact Holds.set (holds_drewN H0.out _) 1 _, (Moves.drewN (Moves.refl (fun k => k = Q) _) _).setCell (p := ⟨Q, 1, none⟩) (.inl rfl) _⟩
      · have hf : fixedP anyR (n : Int) (rest.drop 4) 0 = ((rest.drop 4).take n, (rest.drop 4).drop n, 0) := by
          unfold fixedP
          rw [if_neg (by simp), if_neg (by omega), Int.toNat_natCast]
          rfl
        have HP : Hid (countedP anyR rest 0 = ((rest.drop 4).take n, (rest.drop 4).drop n, 0)) := by
          have := hC
          rw [if_neg hbig] at this
          exact this
        rw [hf] at hB2
        have hg : decide ((n : Int) > ((bs rest).size : Int) - 4) = false := decide_eq_false (by omega)
        clear hC hst hn hB1 hr hsz hd4 ht4 h4 hbig HV hf
        generalize hS : bs rest = S at *
        have HS := Lib.hid hS
        clear hS
        go_enter Tryz.func164, Tryz.ntmps164
        go_wp2_with fail
        go_quiet (first | (go_at_call 206; refine Calls.quiet_of_same (HQ4.out _)))
        go_wp2_with (first
          | (go_at_call 166; have hh1 := h1; with_reducible refine (hB2.out _ h1).mono ?_; rintro e w3 ⟨rfl, h3, m3⟩)
          | (go_at_call 166; with_reducible refine (hB.out _ (HH.out _)).mono ?_; rintro e w1 ⟨rfl, h1, m1⟩)
          | (go_at_call 206; refine (HQ4.out _).mono ?_; rintro e w2 ⟨rfl, rfl⟩))
        go_ret
        exact ⟨by rw [HP.out]; rfl, by rw [HP.out]; exact h3, ((Moves.drewN (Moves.refl (fun k => k = Q) _) _).trans m1 fun i hi => .inl hi).trans m3 fun i hi => .inl hi⟩
  · have HP := Lib.hid (countedP_err anyR (rest := rest) h0)
    have hq : (err != 0) = true := by simpa using h0
    clear hr hsz
    go_enter Tryz.func164, Tryz.ntmps164
    go_wp2
    go_ret
    exact ⟨by rw [HP.out, HE.out]; rfl, by rw [HP.out]; exact H0.out, Moves.refl _ _⟩

end Go.Proofs.YtkmhdepohcncaaaGreatDoor

namespace Go.Proofs.YtkmhdepohcncaaaGreatDoor
open Go.RowKit

set_option maxRecDepth 100000 in
theorem qWhole_any {w : World} {Q : Nat} {rest : List UInt8} {err : Int} (h : QAt w Q rest err) (hr : rest.length ≤ 10000) :
    Calls Tryz.prog 163 #[.pointer (some ⟨Q, 0, none⟩)] w fun e w' => e = .returned (.string (bs (plainL (countedP wholeR rest err).1))) ∧ QAt w' Q (countedP wholeR rest err).2.1 (countedP wholeR rest err).2.2 ∧ Moves (fun k => k = Q) w w' := by
  have c0 := Holds.cell h 0
  have c1 := Holds.cell h 1
  have hQ := Holds.lt h
  have hC := countedP_whole rest err
  have hT := Lib.hid (fun (W : World) (hW : QAt W Q rest err) => qText_any hW (by omega))
  have hw := countedP_word anyR rest err
  generalize countedP anyR rest err = p at *
  obtain ⟨s, r2, e2⟩ := p
  simp only at hT hC hw
  have HP := Lib.hid (fun W => qPlain_any s (by omega) W)
  have HW := Lib.hid (fun W => qW_any s (by omega) W)
  have HX := Lib.hid (fun W => qT_any s (by omega) W)
  have H0 : Hid (∀ (o : Obj) , QAt (w.alloc o) Q rest err) := fun o => Holds.moves h ((Moves.refl nobody w).alloc o) fun h => h
  clear hr hw h
  by_cases he : e2 = 0
  · subst he
    cases hws : wholeR s with
    | true =>
      rw [if_neg (by simp [hws])] at hC
      rw [hC]
      have heq : wholeL s = s := of_decide_eq_true ((wholeR_iff s).symm.trans hws)
      rw [heq] at HW
      generalize bs (cnt s) = C at *
      clear hC hws heq
      generalize plainL s = ps at *
      generalize bs s = S at *
      go_enter Tryz.func163, Tryz.ntmps163
      go_wp2_with (first
        | (go_at_call 164; refine (hT.out _ (H0.out _)).mono ?_; rintro e w1 ⟨rfl, h1, m1⟩; have d1 := Holds.cell h1 1)
        | (go_at_call 170; refine (HW.out _).mono ?_; rintro e w2 ⟨rfl, b2⟩)
        | (go_at_call 94; refine (HX.out _).mono ?_; rintro e w3 ⟨rfl, b3⟩)
        | (go_at_call 169; refine (HP.out _).mono ?_; rintro e w4 ⟨rfl, rfl⟩))
      go_ret
      exact ⟨rfl, Holds.moves (Holds.moves h1 (Moves.ofBelow (S := nobody) b2) fun h => h) (Moves.ofBelow (S := nobody) b3) fun h => h, ((((Moves.refl (fun k => k = Q) w).alloc _).trans m1 fun i hi => .inl hi).trans (Moves.ofBelow (S := nobody) b2) fun _ h => h.elim).trans (Moves.ofBelow (S := nobody) b3) fun _ h => h.elim⟩
    | false =>
      rw [if_pos ⟨rfl, hws⟩] at hC
      rw [hC]
      have hne : wholeL s ≠ s := of_decide_eq_false ((wholeR_iff s).symm.trans hws)
      have hn2 : bs (cnt (wholeL s)) ≠ bs (cnt s) := fun e => hne (cnt_inj (bs_inj e))
      have hq := same_no hn2
      have HE : Hid (bs (plainL []) = ⟨#[]⟩) := rfl
      have HNW : Hid (∀ W : World, Holds (W.alloc (.cells #[.string (bs rest), .int .i64 err] 170)) W.heap.size 170 #[.string (bs rest), .int .i64 err]) := fun W => Holds.new W _ _
      generalize bs (cnt s) = C at *
      generalize bs (cnt (wholeL s)) = C2 at *
      clear hC hws hne hn2 HP
      generalize bs s = S at *
      go_enter Tryz.func163, Tryz.ntmps163
      go_wp2_with (first
        | (go_at_call 164; refine (hT.out _ (H0.out _)).mono ?_; rintro e w1 ⟨rfl, h1, m1⟩; have d1 := Holds.cell h1 1; have hx1 := Holds.moves (HNW.out w) m1 (by omega))
        | (go_at_call 170; refine (HW.out _).mono ?_; rintro e w2 ⟨rfl, b2⟩; have hx2 := Holds.moves hx1 (Moves.ofBelow (S := nobody) b2) (fun h => h); have h2 : QAt w2 Q r2 0 := Holds.moves h1 (Moves.ofBelow (S := nobody) b2) (fun h => h))
        | (go_at_call 94; refine (HX.out _).mono ?_; rintro e w3 ⟨rfl, b3⟩; have hx3 := Holds.moves hx2 (Moves.ofBelow (S := nobody) b3) (fun h => h); have h3 : QAt w3 Q r2 0 := Holds.moves h2 (Moves.ofBelow (S := nobody) b3) (fun h => h)
           have e0 := Holds.cell hx3 0; have g0 := Holds.cell h3 0; have g1 := Holds.cell h3 1; have k0 := Holds.frozen h3 0; have k1 := Holds.frozen h3 1))
      go_ret
      refine ⟨by rw [HE.out]; rfl, Holds.set (Holds.set h3 0 _) 1 _, ?_⟩
      exact ((((((Moves.refl (fun k => k = Q) w).alloc _).trans m1 fun i hi => .inl hi).trans (Moves.ofBelow (S := nobody) b2) fun _ h => h.elim).trans (Moves.ofBelow (S := nobody) b3) fun _ h => h.elim).setCell (p := ⟨Q, 0, none⟩) (.inl rfl) _).setCell (p := ⟨Q, 1, none⟩) (.inl rfl) _
  · rw [if_neg (fun h => he h.1)] at hC
    rw [hC]
    have hq : (e2 == 0) = false := by simpa using he
    clear hC HW HX
    generalize plainL s = ps at *
    generalize bs s = S at *
    go_enter Tryz.func163, Tryz.ntmps163
    go_wp2_with (first
      | (go_at_call 164; refine (hT.out _ (H0.out _)).mono ?_; rintro e w1 ⟨rfl, h1, m1⟩; have d1 := Holds.cell h1 1)
      | (go_at_call 169; refine (HP.out _).mono ?_; rintro e w4 ⟨rfl, rfl⟩))
    go_ret
    exact ⟨rfl, h1, ((Moves.refl (fun k => k = Q) w).alloc _).trans m1 fun i hi => .inl hi⟩
end Go.Proofs.YtkmhdepohcncaaaGreatDoor
