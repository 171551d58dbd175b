/- The reader of wire values: its cells, what its fixed read leaves, Err, Left, End. -/
import Derived.Test.YtfbegkmogdjaiaaDoorStr
import Derived.Laws.Slices
import Derived.Laws.EntriesVeiled
namespace Go.Proofs.YtfbegkmogdjaiaaDoor
open Go.RowKit

/-- Block R is a reader with these bytes left and this first error. -/
def WAt (w : World) (R : Nat) (rest : List UInt8) (err : Int) : Prop := Holds w R 56 #[.string (bs rest), .int .i64 err]
def ptr (R : Nat) : Value := .pointer (some ⟨R, 0, none⟩)

theorem err_nil (w : World) : Calls Tryd.prog 22 #[.pointer none] w fun e w' => e = .returned (.int .i64 1) ∧ w' = w := by
  go_enter Tryd.func22, Tryd.ntmps22
  go_wp2
  go_ret
  exact ⟨rfl, rfl⟩
theorem left_nil (w : World) : Calls Tryd.prog 23 #[.pointer none] w fun e w' => e = .returned (.int .i64 0) ∧ w' = w := by
  go_enter Tryd.func23, Tryd.ntmps23
  go_wp2
  go_ret
  exact ⟨rfl, rfl⟩
theorem err_any {w : World} {R : Nat} {rest : List UInt8} {err : Int} (h : WAt w R rest err) : Calls Tryd.prog 22 #[.pointer (some ⟨R, 0, none⟩)] w fun e w' => e = .returned (.int .i64 err) ∧ w' = w := by
  have c1 := Holds.cell h 1
  go_enter Tryd.func22, Tryd.ntmps22
  go_wp2
  go_ret
  exact ⟨rfl, rfl⟩
theorem left_any {w : World} {R : Nat} {rest : List UInt8} {err : Int} (h : WAt w R rest err) : Calls Tryd.prog 23 #[.pointer (some ⟨R, 0, none⟩)] w fun e w' => e = .returned (.int .i64 rest.length) ∧ w' = w := by
  have c1 := Holds.cell h 0
  have hs := bs_size rest
  have HS := Lib.hid hs
  clear hs
  generalize bs rest = S at *
  go_enter Tryd.func23, Tryd.ntmps23
  go_wp2
  go_ret
  exact ⟨by rw [← HS.out]; rfl, rfl⟩

def endP (rest : List UInt8) (err : Int) : Int := if err ≠ 0 then err else if rest = [] then 0 else 3
theorem end_nil (w : World) : Calls Tryd.prog 24 #[.pointer none] w fun e w' => e = .returned (.int .i64 1) ∧ w' = w := by
  go_enter Tryd.func24, Tryd.ntmps24
  go_wp2_with (go_at_call 22; refine (err_nil _).mono ?_; rintro e w' ⟨rfl, rfl⟩)
  go_ret
  exact ⟨rfl, rfl⟩
theorem end_any {w : World} {R : Nat} {rest : List UInt8} {err : Int} (h : WAt w R rest err) : Calls Tryd.prog 24 #[.pointer (some ⟨R, 0, none⟩)] w fun e w' => e = .returned (.int .i64 (endP rest err)) ∧ w' = w := by
  have he := err_any h
  have hl := left_any h
  by_cases h0 : err = 0
  · subst h0
    by_cases h1 : rest = []
    · have HE : Hid (endP rest 0 = 0) := by subst h1; rfl
      have hz : rest.length = 0 := by simp [h1]
      clear h h1
      generalize rest.length = n at *
      subst hz
      go_enter Tryd.func24, Tryd.ntmps24
      go_wp2_with (first
        | (go_at_call 22; refine he.mono ?_; rintro e w' ⟨rfl, rfl⟩)
        | (go_at_call 23; refine hl.mono ?_; rintro e w' ⟨rfl, rfl⟩))
      go_ret
      exact ⟨by rw [HE.out]; rfl, rfl⟩
    · have HE : Hid (endP rest 0 = 3) := by
        show endP rest 0 = 3
        simp [endP, h1]
      have hz : rest.length ≠ 0 := by simpa using h1
      have hq : ((rest.length : Int) == 0) = false := by simp; exact h1
      clear h h1
      go_enter Tryd.func24, Tryd.ntmps24
      go_wp2_with (first
        | (go_at_call 22; refine he.mono ?_; rintro e w' ⟨rfl, rfl⟩)
        | (go_at_call 23; refine hl.mono ?_; rintro e w' ⟨rfl, rfl⟩))
      go_ret
      exact ⟨by rw [HE.out]; rfl, rfl⟩
  · have HE : Hid (endP rest err = err) := if_pos h0
    have hq : (err != 0) = true := by simpa using h0
    clear h hl
    go_enter Tryd.func24, Tryd.ntmps24
    go_wp2_with (first
      | (go_at_call 22; refine he.mono ?_; rintro e w' ⟨rfl, rfl⟩))
    go_ret
    exact ⟨by rw [HE.out]; rfl, rfl⟩

def fixedP (right : List UInt8 → Bool) (n : Int) (rest : List UInt8) (err : Int) : List UInt8 × List UInt8 × Int :=
  if err ≠ 0 then ([], rest, err) else if n < 0 ∨ (rest.length : Int) < n then ([], rest, 4) else if right (rest.take n.toNat) then (rest.take n.toNat, rest.drop n.toNat, 0) else ([], rest, 3)

theorem fixed_bad (F : Value) {w : World} {R : Nat} {rest : List UInt8} {err : Int} (h : WAt w R rest err) (n : Int) (right : List UInt8 → Bool) (hbad : err ≠ 0 ∨ n < 0 ∨ (rest.length : Int) < n) :
    Calls Tryd.prog 42 #[.pointer (some ⟨R, 0, none⟩), .int .i64 n, F] w fun e w' => e = .returned (.string (bs (fixedP right n rest err).1)) ∧ WAt w' R (fixedP right n rest err).2.1 (fixedP right n rest err).2.2 ∧ Moves (fun k => k = R) w w' := by
  have he := err_any h
  have c0 := Holds.cell h 0
  have c1 := Holds.cell h 1
  have f1 := Holds.frozen h 1
  have hsz := bs_size rest
  have H0 := Lib.hid h
  have HE : Hid (bs ([] : List UInt8) = ⟨#[]⟩) := rfl
  clear h
  by_cases h0 : err = 0
  · subst h0
    have h1 : n < 0 ∨ (rest.length : Int) < n := hbad.resolve_left (by simp)
    have HP : Hid (fixedP right n rest 0 = ([], rest, 4)) := by
      show fixedP right n rest 0 = _
      unfold fixedP
      rw [if_neg (by simp), if_pos h1]
    clear hbad
    generalize bs rest = S at *
    by_cases h2 : n < 0
    · go_enter Tryd.func42, Tryd.ntmps42
      go_wp2_with (go_at_call 22; refine he.mono ?_; rintro e w' ⟨rfl, rfl⟩)
      go_ret
      exact ⟨by rw [HP.out, HE.out]; rfl, by rw [HP.out]; exact Holds.set H0.out 1 _, (Moves.refl (fun k => k = R) _).setCell (p := ⟨R, 1, none⟩) (.inl rfl) _⟩
    · have h3 : (rest.length : Int) < n := h1.resolve_left h2
      go_enter Tryd.func42, Tryd.ntmps42
      go_wp2_with (go_at_call 22; refine he.mono ?_; rintro e w' ⟨rfl, rfl⟩)
      go_ret
      exact ⟨by rw [HP.out, HE.out]; rfl, by rw [HP.out]; exact Holds.set H0.out 1 _, (Moves.refl (fun k => k = R) _).setCell (p := ⟨R, 1, none⟩) (.inl rfl) _⟩
  · have HP : Hid (fixedP right n rest err = ([], rest, err)) := if_pos h0
    have hq : (err != 0) = true := by simpa using h0
    go_enter Tryd.func42, Tryd.ntmps42
    go_wp2_with (go_at_call 22; refine he.mono ?_; rintro e w' ⟨rfl, rfl⟩)
    go_ret
    exact ⟨by rw [HP.out, HE.out]; rfl, by rw [HP.out]; exact H0.out, Moves.refl _ _⟩

theorem fixed_nil (F : Value) (n : Int) (w : World) : Calls Tryd.prog 42 #[.pointer none, .int .i64 n, F] w fun e w' => e = .returned (.string ⟨#[]⟩) ∧ w' = w := by
  go_enter Tryd.func42, Tryd.ntmps42
  go_wp2_with (go_at_call 22; refine (err_nil _).mono ?_; rintro e w' ⟨rfl, rfl⟩)
  go_ret
  exact ⟨rfl, rfl⟩

theorem fixed_any {w : World} {R : Nat} {rest : List UInt8} {err : Int} (h : WAt w R rest err) (hr : rest.length ≤ 1000000) (n : Int) (right : List UInt8 → Bool)
    (hF : 0 ≤ n → n ≤ (rest.length : Int) → ∀ W : World, Calls Tryd.prog 43 #[.string (bs (rest.take n.toNat))] W fun e w' => e = .returned (.bool (right (rest.take n.toNat))) ∧ w' = W) :
    Calls Tryd.prog 42 #[.pointer (some ⟨R, 0, none⟩), .int .i64 n, .func (.func 43) #[] #[]] w fun e w' => e = .returned (.string (bs (fixedP right n rest err).1)) ∧ WAt w' R (fixedP right n rest err).2.1 (fixedP right n rest err).2.2 ∧ Moves (fun k => k = R) w w' := by
  by_cases hbad : err ≠ 0 ∨ n < 0 ∨ (rest.length : Int) < n
  · exact fixed_bad _ h n right hbad
  · have he := err_any h
    have c0 := Holds.cell h 0
    have c1 := Holds.cell h 1
    have f1 := Holds.frozen h 1
    have f0 := Holds.frozen h 0
    have hsz := bs_size rest
    have H0 := Lib.hid h
    clear h
    obtain ⟨m, rfl⟩ : ∃ m : Nat, n = m := ⟨n.toNat, by omega⟩
    obtain rfl : err = 0 := by omega
    have hml : m ≤ rest.length := by omega
    have t1 := bs_take rest m
    have t2 := bs_drop rest m
    have hg := hF (by omega) (by omega)
    rw [Int.toNat_natCast] at hg
    have HP : Hid (fixedP right m rest 0 = if right (rest.take m) then (rest.take m, rest.drop m, 0) else ([], rest, 3)) := by
      show fixedP right m rest 0 = _
      unfold fixedP
      rw [if_neg (by simp), if_neg (by omega), Int.toNat_natCast]
    have HE : Hid (bs ([] : List UInt8) = ⟨#[]⟩) := rfl
    have hb : m ≤ (bs rest).size := by omega
    have hb2 : (bs rest).size ≤ 1000000 := by omega
    obtain ⟨St, hst⟩ : ∃ St, St = bs (rest.take m) := ⟨_, rfl⟩
    obtain ⟨Sd, hsd⟩ : ∃ Sd, Sd = bs (rest.drop m) := ⟨_, rfl⟩
    rw [← hst] at t1 hg
    rw [← hsd] at t2
    have HG := Lib.hid hg
    have HST := Lib.hid hst
    have HSD := Lib.hid hsd
    have HR : Hid (∀ (W : World) (r' : List UInt8) (S' : ByteArray), S' = bs r' → Holds (W) R 56 #[.string S', .int .i64 0] → WAt W R r' 0) := fun W r' S' hS hh => by subst hS; exact hh
    clear hF hbad hg hml hsz hst hsd
    generalize hS : bs rest = S at *
    have HS := Lib.hid hS
    clear hS
    cases hr : right (rest.take m) with
    | true =>
      rw [hr] at HP HG
      simp only [if_true] at HP
      clear hr
      go_enter Tryd.func42, Tryd.ntmps42
      go_wp2_with (first
        | (go_at_call 22; refine he.mono ?_; rintro e w' ⟨rfl, rfl⟩)
        | (go_at_call 43; refine (HG.out _).mono ?_; rintro e w' ⟨rfl, rfl⟩))
      go_ret
      refine ⟨by rw [HP.out, ← HST.out]; rfl, ?_, (Moves.refl (fun k => k = R) _).setCell (p := ⟨R, 0, none⟩) (.inl rfl) _⟩
      rw [HP.out]
      exact HR.out _ _ _ HSD.out (Holds.set (HS.out ▸ H0.out : Holds _ R 56 #[.string S, .int .i64 0]) 0 _)
    | false =>
      rw [hr] at HP HG
      simp only [Bool.false_eq_true, if_false] at HP
      clear hr
      go_enter Tryd.func42, Tryd.ntmps42
      go_wp2_with (first
        | (go_at_call 22; refine he.mono ?_; rintro e w' ⟨rfl, rfl⟩)
        | (go_at_call 43; refine (HG.out _).mono ?_; rintro e w' ⟨rfl, rfl⟩))
      go_ret
      refine ⟨by rw [HP.out, HE.out]; rfl, ?_, (Moves.refl (fun k => k = R) _).setCell (p := ⟨R, 1, none⟩) (.inl rfl) _⟩
      rw [HP.out]
      exact Holds.set H0.out 1 _

theorem fixed_bool {w : World} {R : Nat} {rest : List UInt8} {err : Int} (h : WAt w R rest err) (hr : rest.length ≤ 1000000) (n : Int) (right : List UInt8 → Bool)
    (hF : 0 ≤ n → n ≤ (rest.length : Int) → ∀ W : World, Calls Tryd.prog 44 #[.string (bs (rest.take n.toNat))] W fun e w' => e = .returned (.bool (right (rest.take n.toNat))) ∧ w' = W) :
    Calls Tryd.prog 42 #[.pointer (some ⟨R, 0, none⟩), .int .i64 n, .func (.func 44) #[] #[]] w fun e w' => e = .returned (.string (bs (fixedP right n rest err).1)) ∧ WAt w' R (fixedP right n rest err).2.1 (fixedP right n rest err).2.2 ∧ Moves (fun k => k = R) w w' := by
  by_cases hbad : err ≠ 0 ∨ n < 0 ∨ (rest.length : Int) < n
  · exact fixed_bad _ h n right hbad
  · have he := err_any h
    have c0 := Holds.cell h 0
    have c1 := Holds.cell h 1
    have f1 := Holds.frozen h 1
    have f0 := Holds.frozen h 0
    have hsz := bs_size rest
    have H0 := Lib.hid h
    clear h
    obtain ⟨m, rfl⟩ : ∃ m : Nat, n = m := ⟨n.toNat, by omega⟩
    obtain rfl : err = 0 := by omega
    have hml : m ≤ rest.length := by omega
    have t1 := bs_take rest m
    have t2 := bs_drop rest m
    have hg := hF (by omega) (by omega)
    rw [Int.toNat_natCast] at hg
    have HP : Hid (fixedP right m rest 0 = if right (rest.take m) then (rest.take m, rest.drop m, 0) else ([], rest, 3)) := by
      show fixedP right m rest 0 = _
      unfold fixedP
      rw [if_neg (by simp), if_neg (by omega), Int.toNat_natCast]
    have HE : Hid (bs ([] : List UInt8) = ⟨#[]⟩) := rfl
    have hb : m ≤ (bs rest).size := by omega
    have hb2 : (bs rest).size ≤ 1000000 := by omega
    obtain ⟨St, hst⟩ : ∃ St, St = bs (rest.take m) := ⟨_, rfl⟩
    obtain ⟨Sd, hsd⟩ : ∃ Sd, Sd = bs (rest.drop m) := ⟨_, rfl⟩
    rw [← hst] at t1 hg
    rw [← hsd] at t2
    have HG := Lib.hid hg
    have HST := Lib.hid hst
    have HSD := Lib.hid hsd
    have HR : Hid (∀ (W : World) (r' : List UInt8) (S' : ByteArray), S' = bs r' → Holds (W) R 56 #[.string S', .int .i64 0] → WAt W R r' 0) := fun W r' S' hS hh => by subst hS; exact hh
    clear hF hbad hg hml hsz hst hsd
    generalize hS : bs rest = S at *
    have HS := Lib.hid hS
    clear hS
    cases hr : right (rest.take m) with
    | true =>
      rw [hr] at HP HG
      simp only [if_true] at HP
      clear hr
      go_enter Tryd.func42, Tryd.ntmps42
      go_wp2_with (first
        | (go_at_call 22; refine he.mono ?_; rintro e w' ⟨rfl, rfl⟩)
        | (go_at_call 44; refine (HG.out _).mono ?_; rintro e w' ⟨rfl, rfl⟩))
      go_ret
      refine ⟨by rw [HP.out, ← HST.out]; rfl, ?_, (Moves.refl (fun k => k = R) _).setCell (p := ⟨R, 0, none⟩) (.inl rfl) _⟩
      rw [HP.out]
      exact HR.out _ _ _ HSD.out (Holds.set (HS.out ▸ H0.out : Holds _ R 56 #[.string S, .int .i64 0]) 0 _)
    | false =>
      rw [hr] at HP HG
      simp only [Bool.false_eq_true, if_false] at HP
      clear hr
      go_enter Tryd.func42, Tryd.ntmps42
      go_wp2_with (first
        | (go_at_call 22; refine he.mono ?_; rintro e w' ⟨rfl, rfl⟩)
        | (go_at_call 44; refine (HG.out _).mono ?_; rintro e w' ⟨rfl, rfl⟩))
      go_ret
      refine ⟨by rw [HP.out, HE.out]; rfl, ?_, (Moves.refl (fun k => k = R) _).setCell (p := ⟨R, 1, none⟩) (.inl rfl) _⟩
      rw [HP.out]
      exact Holds.set H0.out 1 _

theorem fixed_whole {w : World} {R : Nat} {rest : List UInt8} {err : Int} (h : WAt w R rest err) (hr : rest.length ≤ 1000000) (n : Int) (right : List UInt8 → Bool)
    (hF : 0 ≤ n → n ≤ (rest.length : Int) → ∀ W : World, Calls Tryd.prog 48 #[.string (bs (rest.take n.toNat))] W fun e w' => e = .returned (.bool (right (rest.take n.toNat))) ∧ w' = W) :
    Calls Tryd.prog 42 #[.pointer (some ⟨R, 0, none⟩), .int .i64 n, .func (.func 48) #[] #[]] w fun e w' => e = .returned (.string (bs (fixedP right n rest err).1)) ∧ WAt w' R (fixedP right n rest err).2.1 (fixedP right n rest err).2.2 ∧ Moves (fun k => k = R) w w' := by
  by_cases hbad : err ≠ 0 ∨ n < 0 ∨ (rest.length : Int) < n
  · exact fixed_bad _ h n right hbad
  · have he := err_any h
    have c0 := Holds.cell h 0
    have c1 := Holds.cell h 1
    have f1 := Holds.frozen h 1
    have f0 := Holds.frozen h 0
    have hsz := bs_size rest
    have H0 := Lib.hid h
    clear h
    obtain ⟨m, rfl⟩ : ∃ m : Nat, n = m := ⟨n.toNat, by omega⟩
    obtain rfl : err = 0 := by omega
    have hml : m ≤ rest.length := by omega
    have t1 := bs_take rest m
    have t2 := bs_drop rest m
    have hg := hF (by omega) (by omega)
    rw [Int.toNat_natCast] at hg
    have HP : Hid (fixedP right m rest 0 = if right (rest.take m) then (rest.take m, rest.drop m, 0) else ([], rest, 3)) := by
      show fixedP right m rest 0 = _
      unfold fixedP
      rw [if_neg (by simp), if_neg (by omega), Int.toNat_natCast]
    have HE : Hid (bs ([] : List UInt8) = ⟨#[]⟩) := rfl
    have hb : m ≤ (bs rest).size := by omega
    have hb2 : (bs rest).size ≤ 1000000 := by omega
    obtain ⟨St, hst⟩ : ∃ St, St = bs (rest.take m) := ⟨_, rfl⟩
    obtain ⟨Sd, hsd⟩ : ∃ Sd, Sd = bs (rest.drop m) := ⟨_, rfl⟩
    rw [← hst] at t1 hg
    rw [← hsd] at t2
    have HG := Lib.hid hg
    have HST := Lib.hid hst
    have HSD := Lib.hid hsd
    have HR : Hid (∀ (W : World) (r' : List UInt8) (S' : ByteArray), S' = bs r' → Holds (W) R 56 #[.string S', .int .i64 0] → WAt W R r' 0) := fun W r' S' hS hh => by subst hS; exact hh
    clear hF hbad hg hml hsz hst hsd
    generalize hS : bs rest = S at *
    have HS := Lib.hid hS
    clear hS
    cases hr : right (rest.take m) with
    | true =>
      rw [hr] at HP HG
      simp only [if_true] at HP
      clear hr
      go_enter Tryd.func42, Tryd.ntmps42
      go_wp2_with (first
        | (go_at_call 22; refine he.mono ?_; rintro e w' ⟨rfl, rfl⟩)
        | (go_at_call 48; refine (HG.out _).mono ?_; rintro e w' ⟨rfl, rfl⟩))
      go_ret
      refine ⟨by rw [HP.out, ← HST.out]; rfl, ?_, (Moves.refl (fun k => k = R) _).setCell (p := ⟨R, 0, none⟩) (.inl rfl) _⟩
      rw [HP.out]
      exact HR.out _ _ _ HSD.out (Holds.set (HS.out ▸ H0.out : Holds _ R 56 #[.string S, .int .i64 0]) 0 _)
    | false =>
      rw [hr] at HP HG
      simp only [Bool.false_eq_true, if_false] at HP
      clear hr
      go_enter Tryd.func42, Tryd.ntmps42
      go_wp2_with (first
        | (go_at_call 22; refine he.mono ?_; rintro e w' ⟨rfl, rfl⟩)
        | (go_at_call 48; refine (HG.out _).mono ?_; rintro e w' ⟨rfl, rfl⟩))
      go_ret
      refine ⟨by rw [HP.out, HE.out]; rfl, ?_, (Moves.refl (fun k => k = R) _).setCell (p := ⟨R, 1, none⟩) (.inl rfl) _⟩
      rw [HP.out]
      exact Holds.set H0.out 1 _
end Go.Proofs.YtfbegkmogdjaiaaDoor
