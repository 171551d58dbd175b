/- Part 21 of what the statement wants. -/
import Derived.Laws.Slices
import Derived.Laws.EntriesVeiled
import Derived.Test.YtlalkpgipenkaaaGreatDoorPk00
import Derived.Test.YtlalkpgipenkaaaGreatDoorPk01
import Derived.Test.YtlalkpgipenkaaaGreatDoorPk02
import Derived.Test.YtlalkpgipenkaaaGreatDoorPk20
namespace Go.Proofs.YtlalkpgipenkaaaGreatDoor
open Go.RowKit

theorem left_any {w : World} {R : Nat} {rest : List UInt8} {err : Int} (h : WAt w R rest err) : Calls Tryz.prog 158 #[.pointer (some ⟨R, 0, none⟩)] w fun e w' => e = .returned (.int .i64 rest.length) ∧ w' = w := by
  have c1 := Holds.cell h 0
  have hs := bs_size rest
  have HS := Lib.hid hs
  clear hs
  generalize bs rest = S at *
  go_enter Tryz.func158, Tryz.ntmps158
  go_wp2
  go_ret
  exact ⟨by rw [← HS.out]; rfl, rfl⟩

def endP (rest : List UInt8) (err : Int) : Int := if err ≠ 0 then err else if rest = [] then 0 else 3
theorem end_any {w : World} {R : Nat} {rest : List UInt8} {err : Int} (h : WAt w R rest err) : Calls Tryz.prog 129 #[.pointer (some ⟨R, 0, none⟩)] w fun e w' => e = .returned (.int .i64 (endP rest err)) ∧ w' = w := by
  have he := err_any h
  have hl := left_any h
  by_cases h0 : err = 0
  · subst h0
    by_cases h1 : rest = []
    · have HE : Hid (endP rest 0 = 0) := by subst h1; rfl
      have hz : rest.length = 0 := by simp [h1]
      clear h h1
      generalize rest.length = n at *
      subst hz
      go_enter Tryz.func129, Tryz.ntmps129
      go_wp2_with (first
        | (go_at_call 134; refine he.mono ?_; rintro e w' ⟨rfl, rfl⟩)
        | (go_at_call 158; refine hl.mono ?_; rintro e w' ⟨rfl, rfl⟩))
      go_ret
      exact ⟨by rw [HE.out]; rfl, rfl⟩
    · have HE : Hid (endP rest 0 = 3) := by
        show endP rest 0 = 3
        simp [endP, h1]
      have hz : rest.length ≠ 0 := by simpa using h1
      have hq : ((rest.length : Int) == 0) = false := by simp; exact h1
      clear h h1
      go_enter Tryz.func129, Tryz.ntmps129
      go_wp2_with (first
        | (go_at_call 134; refine he.mono ?_; rintro e w' ⟨rfl, rfl⟩)
        | (go_at_call 158; refine hl.mono ?_; rintro e w' ⟨rfl, rfl⟩))
      go_ret
      exact ⟨by rw [HE.out]; rfl, rfl⟩
  · have HE : Hid (endP rest err = err) := if_pos h0
    have hq : (err != 0) = true := by simpa using h0
    clear h hl
    go_enter Tryz.func129, Tryz.ntmps129
    go_wp2_with (first
      | (go_at_call 134; refine he.mono ?_; rintro e w' ⟨rfl, rfl⟩))
    go_ret
    exact ⟨by rw [HE.out]; rfl, rfl⟩

theorem fixed_bool {w : World} {R : Nat} {rest : List UInt8} {err : Int} (h : WAt w R rest err) (hr : rest.length ≤ 1000000) (n : Int) (right : List UInt8 → Bool)
    (hF : 0 ≤ n → n ≤ (rest.length : Int) → ∀ W : World, Calls Tryz.prog 203 #[.string (bs (rest.take n.toNat))] W fun e w' => e = .returned (.bool (right (rest.take n.toNat))) ∧ w' = W) :
    Calls Tryz.prog 165 #[.pointer (some ⟨R, 0, none⟩), .int .i64 n, .func (.func 203) #[] #[]] w fun e w' => e = .returned (.string (bs (fixedP right n rest err).1)) ∧ WAt w' R (fixedP right n rest err).2.1 (fixedP right n rest err).2.2 ∧ Moves (fun k => k = R) w w' := by
  by_cases hbad : err ≠ 0 ∨ n < 0 ∨ (rest.length : Int) < n
  · exact fixed_bad _ h n right hbad
  · have he := err_any h
    have c0 := Holds.cell h 0
    have c1 := Holds.cell h 1
    have f1 := Holds.frozen h 1
    have f0 := Holds.frozen h 0
    have hsz := bs_size rest
    have H0 := Lib.hid h
    clear h
    obtain ⟨m, rfl⟩ : ∃ m : Nat, n = m := ⟨n.toNat, by omega⟩
    obtain rfl : err = 0 := by omega
    have hml : m ≤ rest.length := by omega
    have t1 := bs_take rest m
    have t2 := bs_drop rest m
    have hg := hF (by omega) (by omega)
    rw [Int.toNat_natCast] at hg
    have HP : Hid (fixedP right m rest 0 = if right (rest.take m) then (rest.take m, rest.drop m, 0) else ([], rest, 3)) := by
      show fixedP right m rest 0 = _
      unfold fixedP
      rw [if_neg (by simp), if_neg (by omega), Int.toNat_natCast]
    have HE : Hid (bs ([] : List UInt8) = ⟨#[]⟩) := rfl
    have hb : m ≤ (bs rest).size := by omega
    have hb2 : (bs rest).size ≤ 1000000 := by omega
    obtain ⟨St, hst⟩ : ∃ St, St = bs (rest.take m) := ⟨_, rfl⟩
    obtain ⟨Sd, hsd⟩ : ∃ Sd, Sd = bs (rest.drop m) := ⟨_, rfl⟩
    rw [← hst] at t1 hg
    rw [← hsd] at t2
    have HG := Lib.hid hg
    have HST := Lib.hid hst
    have HSD := Lib.hid hsd
    have HR : Hid (∀ (W : World) (r' : List UInt8) (S' : ByteArray), S' = bs r' → Holds (W) R 195 #[.string S', .int .i64 0] → WAt W R r' 0) := fun W r' S' hS hh => by subst hS; exact hh
    clear hF hbad hg hml hsz hst hsd
    generalize hS : bs rest = S at *
    have HS := Lib.hid hS
    clear hS
    cases hr : right (rest.take m) with
    | true =>
      rw [hr] at HP HG
      simp only [if_true] at HP
      clear hr
      go_enter Tryz.func165, Tryz.ntmps165
      go_wp2_with (first
        | (go_at_call 134; refine he.mono ?_; rintro e w' ⟨rfl, rfl⟩)
        | (go_at_call 203; refine (HG.out _).mono ?_; rintro e w' ⟨rfl, rfl⟩))
      go_ret
      refine ⟨by rw [HP.out, ← HST.out]; rfl, ?_, (Moves.refl (fun k => k = R) _).setCell (p := ⟨R, 0, none⟩) (.inl rfl) _⟩
      rw [HP.out]
      exact HR.out _ _ _ HSD.out (Holds.set (HS.out ▸ H0.out : Holds _ R 195 #[.string S, .int .i64 0]) 0 _)
    | false =>
      rw [hr] at HP HG
      simp only [Bool.false_eq_true, if_false] at HP
      clear hr
      go_enter Tryz.func165, Tryz.ntmps165
      go_wp2_with (first
        | (go_at_call 134; refine he.mono ?_; rintro e w' ⟨rfl, rfl⟩)
        | (go_at_call 203; refine (HG.out _).mono ?_; rintro e w' ⟨rfl, rfl⟩))
      go_ret
      refine ⟨by rw [HP.out, HE.out]; rfl, ?_, (Moves.refl (fun k => k = R) _).setCell (p := ⟨R, 1, none⟩) (.inl rfl) _⟩
      rw [HP.out]
      exact Holds.set H0.out 1 _

theorem fixed_whole {w : World} {R : Nat} {rest : List UInt8} {err : Int} (h : WAt w R rest err) (hr : rest.length ≤ 1000000) (n : Int) (right : List UInt8 → Bool)
    (hF : 0 ≤ n → n ≤ (rest.length : Int) → ∀ W : World, Calls Tryz.prog 206 #[.string (bs (rest.take n.toNat))] W fun e w' => e = .returned (.bool (right (rest.take n.toNat))) ∧ w' = W) :
    Calls Tryz.prog 165 #[.pointer (some ⟨R, 0, none⟩), .int .i64 n, .func (.func 206) #[] #[]] w fun e w' => e = .returned (.string (bs (fixedP right n rest err).1)) ∧ WAt w' R (fixedP right n rest err).2.1 (fixedP right n rest err).2.2 ∧ Moves (fun k => k = R) w w' := by
  by_cases hbad : err ≠ 0 ∨ n < 0 ∨ (rest.length : Int) < n
  · exact fixed_bad _ h n right hbad
  · have he := err_any h
    have c0 := Holds.cell h 0
    have c1 := Holds.cell h 1
    have f1 := Holds.frozen h 1
    have f0 := Holds.frozen h 0
    have hsz := bs_size rest
    have H0 := Lib.hid h
    clear h
    obtain ⟨m, rfl⟩ : ∃ m : Nat, n = m := ⟨n.toNat, by omega⟩
    obtain rfl : err = 0 := by omega
    have hml : m ≤ rest.length := by omega
    have t1 := bs_take rest m
    have t2 := bs_drop rest m
    have hg := hF (by omega) (by omega)
    rw [Int.toNat_natCast] at hg
    have HP : Hid (fixedP right m rest 0 = if right (rest.take m) then (rest.take m, rest.drop m, 0) else ([], rest, 3)) := by
      show fixedP right m rest 0 = _
      unfold fixedP
      rw [if_neg (by simp), if_neg (by omega), Int.toNat_natCast]
    have HE : Hid (bs ([] : List UInt8) = ⟨#[]⟩) := rfl
    have hb : m ≤ (bs rest).size := by omega
    have hb2 : (bs rest).size ≤ 1000000 := by omega
    obtain ⟨St, hst⟩ : ∃ St, St = bs (rest.take m) := ⟨_, rfl⟩
    obtain ⟨Sd, hsd⟩ : ∃ Sd, Sd = bs (rest.drop m) := ⟨_, rfl⟩
    rw [← hst] at t1 hg
    rw [← hsd] at t2
    have HG := Lib.hid hg
    have HST := Lib.hid hst
    have HSD := Lib.hid hsd
    have HR : Hid (∀ (W : World) (r' : List UInt8) (S' : ByteArray), S' = bs r' → Holds (W) R 195 #[.string S', .int .i64 0] → WAt W R r' 0) := fun W r' S' hS hh => by subst hS; exact hh
    clear hF hbad hg hml hsz hst hsd
    generalize hS : bs rest = S at *
    have HS := Lib.hid hS
    clear hS
    cases hr : right (rest.take m) with
    | true =>
      rw [hr] at HP HG
      simp only [if_true] at HP
      clear hr
      go_enter Tryz.func165, Tryz.ntmps165
      go_wp2_with (first
        | (go_at_call 134; refine he.mono ?_; rintro e w' ⟨rfl, rfl⟩)
        | (go_at_call 206; refine (HG.out _).mono ?_; rintro e w' ⟨rfl, rfl⟩))
      go_ret
      refine ⟨by rw [HP.out, ← HST.out]; rfl, ?_, (Moves.refl (fun k => k = R) _).setCell (p := ⟨R, 0, none⟩) (.inl rfl) _⟩
      rw [HP.out]
      exact HR.out _ _ _ HSD.out (Holds.set (HS.out ▸ H0.out : Holds _ R 195 #[.string S, .int .i64 0]) 0 _)
    | false =>
      rw [hr] at HP HG
      simp only [Bool.false_eq_true, if_false] at HP
      clear hr
      go_enter Tryz.func165, Tryz.ntmps165
      go_wp2_with (first
        | (go_at_call 134; refine he.mono ?_; rintro e w' ⟨rfl, rfl⟩)
        | (go_at_call 206; refine (HG.out _).mono ?_; rintro e w' ⟨rfl, rfl⟩))
      go_ret
      refine ⟨by rw [HP.out, HE.out]; rfl, ?_, (Moves.refl (fun k => k = R) _).setCell (p := ⟨R, 1, none⟩) (.inl rfl) _⟩
      rw [HP.out]
      exact Holds.set H0.out 1 _
end Go.Proofs.YtlalkpgipenkaaaGreatDoor

namespace Go.Proofs.YtlalkpgipenkaaaGreatDoor
open Go.RowKit

def boolR : List UInt8 → Bool := fun l => decide ((hd0 l).toNat ≤ 1)

theorem wBool1_any (b : UInt8) (l : List UInt8) (w : World) : Calls Tryz.prog 203 #[.string (bs (b :: l))] w fun e w' => e = .returned (.bool (decide (b.toNat ≤ 1))) ∧ w' = w := by
  have hi := fun W => index_bs (b :: l) 0 (by simp) W
  simp only [List.getElem_cons_zero] at hi
  have hi0 : ∀ W : World, (Instr.index 9 (.string (bs (b :: l))) (.int .i64 0)).run Tryz.prog W = .ok (.int .u8 (b.toNat : Int)) W := hi
  have HD : Hid (decide ((b.toNat : Int) ≤ 1) = decide (b.toNat ≤ 1)) := by
    show decide ((b.toNat : Int) ≤ 1) = decide (b.toNat ≤ 1)
    exact decide_eq_decide.2 (by omega)
  clear hi
  generalize bs (b :: l) = S at *
  generalize b.toNat = n at *
  go_enter Tryz.func203, Tryz.ntmps203
  go_wp2
  go_ret
  exact ⟨by rw [← HD.out]; rfl, rfl⟩

theorem wFirst_any (l : List UInt8) (w : World) : Calls Tryz.prog 202 #[.string (bs l)] w fun e w' => e = .returned (.int .u8 ((hd0 l).toNat : Int)) ∧ w' = w := by
  cases l with
  | nil =>
    rw [show bs ([] : List UInt8) = ⟨#[]⟩ from rfl]
    go_enter Tryz.func202, Tryz.ntmps202
    go_wp2
    go_ret
    exact ⟨rfl, rfl⟩
  | cons b l =>
    have hi := fun W => index_bs (b :: l) 0 (by simp) W
    simp only [List.getElem_cons_zero] at hi
    have hi0 : ∀ W : World, (Instr.index 9 (.string (bs (b :: l))) (.int .i64 0)).run Tryz.prog W = .ok (.int .u8 (b.toNat : Int)) W := hi
    have hne : (bs (b :: l)).toList.isEmpty = false := by
      rw [ByteArray.toList_eq]
      simp [bs]
    have HB : Hid ((hd0 (b :: l)).toNat = b.toNat) := rfl
    clear hi
    generalize bs (b :: l) = S at *
    generalize b.toNat = n at *
    go_enter Tryz.func202, Tryz.ntmps202
    go_wp2
    go_ret
    exact ⟨by rw [HB.out]; rfl, rfl⟩

def boolP (rest : List UInt8) (err : Int) : Bool × List UInt8 × Int := let p := fixedP boolR 1 rest err; (decide ((hd0 p.1).toNat = 1), p.2)
theorem rBool_any {w : World} {R : Nat} {rest : List UInt8} {err : Int} (h : WAt w R rest err) (hr : rest.length ≤ 1000000) :
    Calls Tryz.prog 150 #[.pointer (some ⟨R, 0, none⟩)] w fun e w' => e = .returned (.bool (boolP rest err).1) ∧ WAt w' R (boolP rest err).2.1 (boolP rest err).2.2 ∧ Moves (fun k => k = R) w w' := by
  have hf := fixed_bool h hr 1 boolR (fun _ h1 W => by
    cases rest with
    | nil => simp at h1
    | cons b l => exact wBool1_any b [] W)
  unfold boolP
  generalize fixedP boolR 1 rest err = p at *
  have HF := Lib.hid hf
  have HD : Hid (((((hd0 p.1).toNat : Int)) == 1) = decide ((hd0 p.1).toNat = 1)) := by
    show ((((hd0 p.1).toNat : Int)) == 1) = decide ((hd0 p.1).toNat = 1)
    by_cases hq : (hd0 p.1).toNat = 1
    · simp [hq]
    · rw [decide_eq_false hq, beq_eq_false_iff_ne]
      omega
  clear hf h
  go_enter Tryz.func150, Tryz.ntmps150
  go_wp2_with (first
    | (go_at_call 165; refine HF.out.mono ?_; rintro e w1 ⟨rfl, h1, h2⟩)
    | (go_at_call 202; refine (wFirst_any _ _).mono ?_; rintro e w2 ⟨rfl, rfl⟩))
  go_ret
  exact ⟨by rw [← HD.out]; rfl, h1, h2⟩

theorem rBytes_any {w : World} {R : Nat} {rest : List UInt8} {err : Int} (h : WAt w R rest err) (hr : rest.length ≤ 1000000) (n : Int) :
    Calls Tryz.prog 153 #[.pointer (some ⟨R, 0, none⟩), .int .i64 n] w fun e w' => e = .returned (.string (bs (fixedP anyR n rest err).1)) ∧ WAt w' R (fixedP anyR n rest err).2.1 (fixedP anyR n rest err).2.2 ∧ Moves (fun k => k = R) w w' := by
  have hf := fixed_any h hr n anyR (fun _ _ W => wAny_any _ W)
  generalize fixedP anyR n rest err = p at *
  have HF := Lib.hid hf
  clear hf h
  go_enter Tryz.func153, Tryz.ntmps153
  go_wp2_with (first
    | (go_at_call 165; refine HF.out.mono ?_; rintro e w1 ⟨rfl, h1, h2⟩))
  go_ret
  exact ⟨rfl, h1, h2⟩

end Go.Proofs.YtlalkpgipenkaaaGreatDoor

namespace Go.Proofs.YtlalkpgipenkaaaGreatDoor
open Go.RowKit

def wholeR : List UInt8 → Bool
  | [] => true
  | [b] => decide (b.toNat ≠ 0 ∧ b.toNat < 128)
  | b :: c :: _ => if b.toNat ≠ 0 then decide (b.toNat < 128) else decide (128 ≤ c.toNat)

set_option maxRecDepth 100000 in
theorem wWhole1_any (l : List UInt8) (hl : l.length ≤ 1000000) (w : World) : Calls Tryz.prog 206 #[.string (bs l)] w fun e w' => e = .returned (.bool (wholeR l)) ∧ w' = w := by
  cases l with
  | nil =>
    rw [show bs ([] : List UInt8) = ⟨#[]⟩ from rfl]
    have HP : Hid (wholeR [] = true) := rfl
    go_enter Tryz.func206, Tryz.ntmps206
    go_wp2
    go_ret
    exact ⟨by rw [HP.out]; rfl, rfl⟩
  | cons b r =>
    have hne : (bs (b :: r)).toList.isEmpty = false := by
      rw [ByteArray.toList_eq]
      simp [bs]
    have hi0 : ∀ W : World, (Instr.index 9 (.string (bs (b :: r))) (.int .i64 0)).run Tryz.prog W = .ok (.int .u8 (b.toNat : Int)) W := fun W => index_bs (b :: r) 0 (by simp) W
    have hsz := bs_size (b :: r)
    by_cases hb : b.toNat = 0
    · cases r with
      | nil =>
        have HP : Hid (wholeR [b] = false) := by
          show wholeR [b] = false
          simp [wholeR, hb]
        rw [hb] at hi0
        have hi1 : ∀ W : World, (Instr.index 9 (.string (bs [b])) (.int .i64 0)).run Tryz.prog W = .ok (.int .u8 0) W := hi0
        simp only [List.length_cons, List.length_nil] at hsz
        clear hi0
        generalize bs [b] = B at *
        go_enter Tryz.func206, Tryz.ntmps206
        go_wp2
        go_ret
        exact ⟨by rw [HP.out]; rfl, rfl⟩
      | cons c r =>
        have HP : Hid (wholeR (b :: c :: r) = decide (128 ≤ c.toNat)) := by
          show wholeR (b :: c :: r) = _
          simp [wholeR, hb]
        have hi2 : ∀ W : World, (Instr.index 9 (.string (bs (b :: c :: r))) (.int .i64 1)).run Tryz.prog W = .ok (.int .u8 (c.toNat : Int)) W := fun W => index_bs (b :: c :: r) 1 (by simp) W
        rw [hb] at hi0
        have hi1 : ∀ W : World, (Instr.index 9 (.string (bs (b :: c :: r))) (.int .i64 0)).run Tryz.prog W = .ok (.int .u8 0) W := hi0
        simp only [List.length_cons] at hsz hl
        have hs1 : 1 < (bs (b :: c :: r)).size := by omega
        have hs2 : (bs (b :: c :: r)).size ≤ 1000000 := by omega
        have HD : Hid (decide ((c.toNat : Int) ≥ 128) = decide (128 ≤ c.toNat)) := by
          show decide ((c.toNat : Int) ≥ 128) = decide (128 ≤ c.toNat)
          exact decide_eq_decide.2 (by omega)
        clear hi0 hsz hl
        generalize bs (b :: c :: r) = B at *
        generalize c.toNat = n at *
        go_enter Tryz.func206, Tryz.ntmps206
        go_wp2
        go_ret
        exact ⟨by rw [HP.out, ← HD.out]; rfl, rfl⟩
    · have HP : Hid (wholeR (b :: r) = decide (b.toNat < 128)) := by
        show wholeR (b :: r) = _
        cases r with
        | nil => simp [wholeR, hb]
        | cons c r => simp [wholeR, hb]
      have hq : ((b.toNat : Int) != 0) = true := by
        rw [bne_iff_ne]
        omega
      have HD : Hid (decide ((b.toNat : Int) < 128) = decide (b.toNat < 128)) := by
        show decide ((b.toNat : Int) < 128) = decide (b.toNat < 128)
        exact decide_eq_decide.2 (by omega)
      clear hsz hl hb
      generalize bs (b :: r) = B at *
      generalize b.toNat = n at *
      go_enter Tryz.func206, Tryz.ntmps206
      go_wp2
      go_ret
      exact ⟨by rw [HP.out, ← HD.out]; rfl, rfl⟩

def countedP (right : List UInt8 → Bool) (rest : List UInt8) (err : Int) : List UInt8 × List UInt8 × Int :=
  let u := u32Q rest err
  let p := fixedP right u.1 u.2.1 u.2.2
  if p.2.2 = 0 then p else (p.1, rest, p.2.2)

theorem fixedP_rest (right : List UInt8 → Bool) (n : Int) (rest : List UInt8) (err : Int) : (fixedP right n rest err).2.1.length ≤ rest.length := by
  unfold fixedP
  split
  · simp
  · split
    · simp
    · split
      · simp
      · simp
theorem u32Q_lt (rest : List UInt8) (err : Int) : (u32Q rest err).1 < 4294967296 := by
  have h1 := fixedP_len anyR 4 rest err
  show numL (fixedP anyR 4 rest err).1 < _
  have h2 := numL_lt (fixedP anyR 4 rest err).1 _ (Nat.le_refl _)
  rw [List.take_length] at h2
  have : 256 ^ (fixedP anyR 4 rest err).1.length ≤ 256 ^ 4 := Nat.pow_le_pow_right (by omega) h1
  omega

set_option maxRecDepth 100000 in
theorem wcounted_any {w : World} {R : Nat} {rest : List UInt8} {err : Int} (h : WAt w R rest err) (hr : rest.length ≤ 1000000) :
    Calls Tryz.prog 204 #[.pointer (some ⟨R, 0, none⟩), .func (.func 166) #[] #[]] w fun e w' => e = .returned (.string (bs (countedP anyR rest err).1)) ∧ WAt w' R (countedP anyR rest err).2.1 (countedP anyR rest err).2.2 ∧ Moves (fun k => k = R) w w' := by
  have hu := rU32_any h hr
  have hlt := u32Q_lt rest err
  have hul : (u32Q rest err).2.1.length ≤ 1000000 := Nat.le_trans (fixedP_rest anyR 4 rest err) hr
  have HC : Hid (countedP anyR rest err = if (fixedP anyR (u32Q rest err).1 (u32Q rest err).2.1 (u32Q rest err).2.2).2.2 = 0 then fixedP anyR (u32Q rest err).1 (u32Q rest err).2.1 (u32Q rest err).2.2 else ((fixedP anyR (u32Q rest err).1 (u32Q rest err).2.1 (u32Q rest err).2.2).1, rest, (fixedP anyR (u32Q rest err).1 (u32Q rest err).2.1 (u32Q rest err).2.2).2.2)) := rfl
  generalize u32Q rest err = u at *
  obtain ⟨n, r1, e1⟩ := u
  simp only at hu hlt hul HC
  have hf : Hid (∀ W : World, WAt W R r1 e1 → Calls Tryz.prog 165 #[.pointer (some ⟨R, 0, none⟩), .int .i64 n, .func (.func 166) #[] #[]] W fun e w' => e = .returned (.string (bs (fixedP anyR n r1 e1).1)) ∧ WAt w' R (fixedP anyR n r1 e1).2.1 (fixedP anyR n r1 e1).2.2 ∧ Moves (fun k => k = R) W w') :=
    fun W hW => fixed_any hW hul n anyR (fun _ _ W => wAny_any _ W)
  generalize fixedP anyR n r1 e1 = p at *
  obtain ⟨s, r2, e2⟩ := p
  simp only at hf HC
  have c0 := Holds.cell h 0
  have HU := Lib.hid hu
  clear hu hr hul h
  obtain ⟨B, hB⟩ : ∃ B, B = bs rest := ⟨_, rfl⟩
  rw [← hB] at c0
  have HB := Lib.hid hB
  clear hB
  by_cases he : e2 = 0
  · subst he
    simp only [if_true] at HC
    go_enter Tryz.func204, Tryz.ntmps204
    go_wp2_with (first
      | (go_at_call 133; refine HU.out.mono ?_; rintro e w1 ⟨rfl, h1, m1⟩)
      | (go_at_call 165; refine (hf.out _ h1).mono ?_; rintro e w2 ⟨rfl, h2, m2⟩; have d1 := Holds.cell h2 1))
    go_ret
    exact ⟨by rw [HC.out]; rfl, by rw [HC.out]; exact h2, m1.trans m2 fun i hi => .inl hi⟩
  · rw [if_neg he] at HC
    have hq : (e2 != 0) = true := by simpa using he
    go_enter Tryz.func204, Tryz.ntmps204
    go_wp2_with (first
      | (go_at_call 133; refine HU.out.mono ?_; rintro e w1 ⟨rfl, h1, m1⟩)
      | (go_at_call 165; refine (hf.out _ h1).mono ?_; rintro e w2 ⟨rfl, h2, m2⟩; have d1 := Holds.cell h2 1; have d0 := Holds.cell h2 0; have f0 := Holds.frozen h2 0))
    go_ret
    refine ⟨by rw [HC.out]; rfl, ?_, (m1.trans m2 fun i hi => .inl hi).setCell (p := ⟨R, 0, none⟩) (.inl rfl) _⟩
    rw [HC.out]
    have := Holds.set h2 0 (.string B)
    rw [HB.out] at this ⊢
    exact this

set_option maxRecDepth 100000 in
theorem counted_whole {w : World} {R : Nat} {rest : List UInt8} {err : Int} (h : WAt w R rest err) (hr : rest.length ≤ 1000000) :
    Calls Tryz.prog 204 #[.pointer (some ⟨R, 0, none⟩), .func (.func 206) #[] #[]] w fun e w' => e = .returned (.string (bs (countedP wholeR rest err).1)) ∧ WAt w' R (countedP wholeR rest err).2.1 (countedP wholeR rest err).2.2 ∧ Moves (fun k => k = R) w w' := by
  have hu := rU32_any h hr
  have hlt := u32Q_lt rest err
  have hul : (u32Q rest err).2.1.length ≤ 1000000 := Nat.le_trans (fixedP_rest anyR 4 rest err) hr
  have HC : Hid (countedP wholeR rest err = if (fixedP wholeR (u32Q rest err).1 (u32Q rest err).2.1 (u32Q rest err).2.2).2.2 = 0 then fixedP wholeR (u32Q rest err).1 (u32Q rest err).2.1 (u32Q rest err).2.2 else ((fixedP wholeR (u32Q rest err).1 (u32Q rest err).2.1 (u32Q rest err).2.2).1, rest, (fixedP wholeR (u32Q rest err).1 (u32Q rest err).2.1 (u32Q rest err).2.2).2.2)) := rfl
  generalize u32Q rest err = u at *
  obtain ⟨n, r1, e1⟩ := u
  simp only at hu hlt hul HC
  have hf : Hid (∀ W : World, WAt W R r1 e1 → Calls Tryz.prog 165 #[.pointer (some ⟨R, 0, none⟩), .int .i64 n, .func (.func 206) #[] #[]] W fun e w' => e = .returned (.string (bs (fixedP wholeR n r1 e1).1)) ∧ WAt w' R (fixedP wholeR n r1 e1).2.1 (fixedP wholeR n r1 e1).2.2 ∧ Moves (fun k => k = R) W w') :=
    fun W hW => fixed_whole hW hul n wholeR (fun _ _ W => wWhole1_any _ (by rw [List.length_take]; omega) W)
  generalize fixedP wholeR n r1 e1 = p at *
  obtain ⟨s, r2, e2⟩ := p
  simp only at hf HC
  have c0 := Holds.cell h 0
  have HU := Lib.hid hu
  clear hu hr hul h
  obtain ⟨B, hB⟩ : ∃ B, B = bs rest := ⟨_, rfl⟩
  rw [← hB] at c0
  have HB := Lib.hid hB
  clear hB
  by_cases he : e2 = 0
  · subst he
    simp only [if_true] at HC
    go_enter Tryz.func204, Tryz.ntmps204
    go_wp2_with (first
      | (go_at_call 133; refine HU.out.mono ?_; rintro e w1 ⟨rfl, h1, m1⟩)
      | (go_at_call 165; refine (hf.out _ h1).mono ?_; rintro e w2 ⟨rfl, h2, m2⟩; have d1 := Holds.cell h2 1))
    go_ret
    exact ⟨by rw [HC.out]; rfl, by rw [HC.out]; exact h2, m1.trans m2 fun i hi => .inl hi⟩
  · rw [if_neg he] at HC
    have hq : (e2 != 0) = true := by simpa using he
    go_enter Tryz.func204, Tryz.ntmps204
    go_wp2_with (first
      | (go_at_call 133; refine HU.out.mono ?_; rintro e w1 ⟨rfl, h1, m1⟩)
      | (go_at_call 165; refine (hf.out _ h1).mono ?_; rintro e w2 ⟨rfl, h2, m2⟩; have d1 := Holds.cell h2 1; have d0 := Holds.cell h2 0; have f0 := Holds.frozen h2 0))
    go_ret
    refine ⟨by rw [HC.out]; rfl, ?_, (m1.trans m2 fun i hi => .inl hi).setCell (p := ⟨R, 0, none⟩) (.inl rfl) _⟩
    rw [HC.out]
    have := Holds.set h2 0 (.string B)
    rw [HB.out] at this ⊢
    exact this

theorem fixedP_word (right : List UInt8 → Bool) (n : Int) (rest : List UInt8) (err : Int) : (fixedP right n rest err).1.length ≤ rest.length := by
  unfold fixedP
  split
  · simp
  · split
    · simp
    · split
      · simp; omega
      · simp
theorem countedP_word (right : List UInt8 → Bool) (rest : List UInt8) (err : Int) : (countedP right rest err).1.length ≤ rest.length := by
  have h := Nat.le_trans (fixedP_word right (u32Q rest err).1 (u32Q rest err).2.1 (u32Q rest err).2.2) (fixedP_rest anyR 4 rest err)
  unfold countedP
  show (if (fixedP right (u32Q rest err).1 (u32Q rest err).2.1 (u32Q rest err).2.2).2.2 = 0 then fixedP right (u32Q rest err).1 (u32Q rest err).2.1 (u32Q rest err).2.2 else ((fixedP right (u32Q rest err).1 (u32Q rest err).2.1 (u32Q rest err).2.2).1, rest, (fixedP right (u32Q rest err).1 (u32Q rest err).2.1 (u32Q rest err).2.2).2.2)).1.length ≤ _
  split <;> exact h
theorem rText_any {w : World} {R : Nat} {rest : List UInt8} {err : Int} (h : WAt w R rest err) (hr : rest.length ≤ 1000000) :
    Calls Tryz.prog 151 #[.pointer (some ⟨R, 0, none⟩)] w fun e w' => e = .returned (.string (bs (countedP anyR rest err).1)) ∧ WAt w' R (countedP anyR rest err).2.1 (countedP anyR rest err).2.2 ∧ Moves (fun k => k = R) w w' := by
  have hf := Lib.hid (wcounted_any h hr)
  generalize countedP anyR rest err = p at *
  clear h hr
  go_enter Tryz.func151, Tryz.ntmps151
  go_wp2_with (go_at_call 204; refine hf.out.mono ?_; rintro e w1 ⟨rfl, h1, h2⟩)
  go_ret
  exact ⟨rfl, h1, h2⟩
theorem rWhole_any {w : World} {R : Nat} {rest : List UInt8} {err : Int} (h : WAt w R rest err) (hr : rest.length ≤ 1000000) :
    Calls Tryz.prog 152 #[.pointer (some ⟨R, 0, none⟩)] w fun e w' => e = .returned (.string (bs (plainL (countedP wholeR rest err).1))) ∧ WAt w' R (countedP wholeR rest err).2.1 (countedP wholeR rest err).2.2 ∧ Moves (fun k => k = R) w w' := by
  have hf := Lib.hid (counted_whole h hr)
  have hw := countedP_word wholeR rest err
  generalize countedP wholeR rest err = p at *
  have HU := Lib.hid (fun W => unpadded_any p.1 (by omega) W)
  clear h hr hw
  go_enter Tryz.func152, Tryz.ntmps152
  go_wp2_with (first
    | (go_at_call 204; refine hf.out.mono ?_; rintro e w1 ⟨rfl, h1, h2⟩)
    | (go_at_call 205; refine (HU.out _).mono ?_; rintro e w2 ⟨rfl, rfl⟩))
  go_ret
  exact ⟨rfl, h1, h2⟩
end Go.Proofs.YtlalkpgipenkaaaGreatDoor

namespace Go.Proofs.YtlalkpgipenkaaaGreatDoor
open Go.RowKit

end Go.Proofs.YtlalkpgipenkaaaGreatDoor
