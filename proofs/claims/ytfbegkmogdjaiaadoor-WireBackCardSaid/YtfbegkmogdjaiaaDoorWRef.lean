/- The document's reader of wire values: its contracts, in the same plain words as the program's reader. -/
import Derived.Test.YtfbegkmogdjaiaaDoorWPure
import Derived.Test.YtfbegkmogdjaiaaDoorRefU32
import Derived.Test.YtfbegkmogdjaiaaDoorSame
import Derived.Deep.QuietTactic
import Derived.BigQuiet
namespace Go.Proofs.YtfbegkmogdjaiaaDoor
open Go.RowKit

def QAt (w : World) (Q : Nat) (rest : List UInt8) (err : Int) : Prop := Holds w Q 28 #[.string (bs rest), .int .i64 err]

set_option maxRecDepth 100000 in
theorem qPlain_any (l : List UInt8) (hl : l.length ≤ 1000000) (w : World) : Calls Tryd.prog 30 #[.string (bs l)] w fun e w' => e = .returned (.string (bs (plainL l))) ∧ w' = w := by
  go_enter Tryd.func30, Tryd.ntmps30
  go_wp2_with fail
  go_loopw [0] (fun v wr => ∃ m : List UInt8, m.length ≤ 1000000 ∧ v = .string (bs m) ∧ plainL m = plainL l ∧ wr = w) (fun v _ => strLen v)
  case atStart => exact ⟨l, hl, rfl, rfl, rfl⟩
  case round =>
    obtain ⟨m, hm, rfl, hp, rfl⟩ := hrel
    cases m with
    | nil =>
      have HP : Hid (plainL l = []) := hp.symm
      have HE : Hid (bs ([] : List UInt8) = ⟨#[]⟩) := rfl
      rw [show bs ([] : List UInt8) = ⟨#[]⟩ from rfl]
      clear hp
      go_wp2_with fail
      go_ret
      exact ⟨by rw [HP.out, HE.out]; rfl, rfl⟩
    | cons b r =>
      have hi0 : ∀ W : World, (Instr.index 9 (.string (bs (b :: r))) (.int .i64 0)).run Tryd.prog W = .ok (.int .u8 (b.toNat : Int)) W := fun W => index_bs (b :: r) 0 (by simp) W
      have hd := drop_one b r
      have hsz := bs_size (b :: r)
      simp only [List.length_cons] at hm hsz
      have hrs := bs_size r
      by_cases hb : b = 0
      · have HP : Hid (plainL r = plainL l) := by
          show plainL r = _
          rw [← hp, plainL_cons, if_pos hb]
        have hbn : b.toNat = 0 := by rw [hb]; rfl
        rw [hbn] at hi0
        have hi1 : ∀ W : World, (Instr.index 9 (.string (bs (b :: r))) (.int .i64 0)).run Tryd.prog W = .ok (.int .u8 0) W := hi0
        clear hi0 hp hbn hb
        have hpos : 0 < (bs (b :: r)).size := by omega
        have hle : (bs (b :: r)).size ≤ 1000000 := by omega
        have HR : Hid (∃ T, T = bs r) := ⟨_, rfl⟩
        obtain ⟨T, hT⟩ := HR.out
        rw [← hT] at hd hrs
        rw [hsz] at hd
        have HT := Lib.hid hT
        clear hT
        generalize bs (b :: r) = B at *
        go_wp2_with fail
        go_roundw
        case rel => exact ⟨r, by omega, by rw [HT.out], HP.out, trivial⟩
        case measure => simp only [strLen]; omega
      · have HP : Hid (plainL l = b :: r) := by
          show plainL l = _
          rw [← hp, plainL_cons, if_neg hb]
        have hbn : b.toNat ≠ 0 := fun e => hb (UInt8.toNat_inj.1 e)
        have hq : ((b.toNat : Int) == 0) = false := by
          rw [beq_eq_false_iff_ne]
          omega
        have hpos : 0 < (bs (b :: r)).size := by omega
        have hle : (bs (b :: r)).size ≤ 1000000 := by omega
        clear hp hb hbn hd
        obtain ⟨B, hB⟩ : ∃ B, B = bs (b :: r) := ⟨_, rfl⟩
        rw [← hB] at hi0 hsz hpos hle ⊢
        have HBB := Lib.hid hB
        clear hB
        generalize b.toNat = n at *
        go_wp2_with fail
        go_ret
        exact ⟨by rw [HP.out, ← HBB.out]; rfl, rfl⟩

set_option maxRecDepth 100000 in
theorem qValue_any (l : List UInt8) (hl : l.length ≤ 4) (w : World) : Calls Tryd.prog 45 #[.string (bs l)] w fun e w' => e = .returned (.int .i64 (numL l : Int)) ∧ w' = w := by
  have hsz := bs_size l
  have HI := Lib.hid (fun (k : Nat) (hk : k < l.length) W => index_bs l k hk W)
  generalize bs l = B at *
  go_enter Tryd.func45, Tryd.ntmps45
  go_wp2_with fail
  go_loopw [3, 4] (fun n i wr => ∃ k : Nat, k ≤ l.length ∧ n = .int .i64 (numL (l.take k) : Int) ∧ i = .int .i64 k ∧ wr = w) (fun _ i _ => l.length - (intOf i).toNat)
  case atStart => exact ⟨0, Nat.zero_le _, rfl, rfl, rfl⟩
  case round =>
    obtain ⟨k, hk, rfl, rfl, rfl⟩ := hrel
    by_cases hlt : k < l.length
    · have hix := HI.out k hlt
      have hb := UInt8.toNat_lt l[k]
      have hn : numL (l.take k) < 16777216 := by
        have := numL_lt l k hk
        have : 256 ^ k ≤ 256 ^ 3 := Nat.pow_le_pow_right (by omega) (by omega)
        omega
      have HT := Lib.hid (numL_take l hlt)
      clear HI
      generalize numL (l.take k) = n at *
      generalize (l[k]'hlt).toNat = b at *
      go_wp2_with fail
      go_roundw
      case rel =>
        refine ⟨k + 1, by omega, ?_, by go_num, trivial⟩
        rw [HT.out]
        simp
        omega
      case measure => simp [intOf]; omega
    · have hkl : k = l.length := by omega
      subst hkl
      rw [List.take_length]
      clear hlt HI
      go_wp2_with fail
      go_ret
      exact ⟨rfl, rfl⟩

theorem qEnd_any {w : World} {Q : Nat} {rest : List UInt8} {err : Int} (h : QAt w Q rest err) : Calls Tryd.prog 25 #[.pointer (some ⟨Q, 0, none⟩)] w fun e w' => e = .returned (.int .i64 (endP rest err)) ∧ w' = w := by
  have c0 := Holds.cell h 0
  have c1 := Holds.cell h 1
  have hsz := bs_size rest
  clear h
  by_cases h0 : err = 0
  · subst h0
    by_cases h1 : rest = []
    · have HE : Hid (endP rest 0 = 0) := by subst h1; rfl
      have hz : (bs rest).size = 0 := by rw [hsz, h1]; rfl
      clear hsz h1
      generalize bs rest = S at *
      go_enter Tryd.func25, Tryd.ntmps25
      go_wp2
      go_ret
      exact ⟨by rw [HE.out]; rfl, rfl⟩
    · have HE : Hid (endP rest 0 = 3) := by
        show endP rest 0 = 3
        simp [endP, h1]
      have hz : 0 < (bs rest).size := by
        rw [hsz]
        exact List.length_pos_iff.2 h1
      clear hsz h1
      generalize bs rest = S at *
      go_enter Tryd.func25, Tryd.ntmps25
      go_wp2
      go_ret
      exact ⟨by rw [HE.out]; rfl, rfl⟩
  · have HE : Hid (endP rest err = err) := if_pos h0
    have hq : (err == 0) = false := by simpa using h0
    clear hsz
    generalize bs rest = S at *
    go_enter Tryd.func25, Tryd.ntmps25
    go_wp2
    go_ret
    exact ⟨by rw [HE.out]; rfl, rfl⟩

theorem qBytes_any {w : World} {Q : Nat} {rest : List UInt8} {err : Int} (h : QAt w Q rest err) (hr : rest.length ≤ 1000000) (n : Int) :
    Calls Tryd.prog 21 #[.pointer (some ⟨Q, 0, none⟩), .int .i64 n] w fun e w' => e = .returned (.string (bs (fixedP anyR n rest err).1)) ∧ QAt w' Q (fixedP anyR n rest err).2.1 (fixedP anyR n rest err).2.2 ∧ Moves (fun k => k = Q) w w' := by
  have c0 := Holds.cell h 0
  have c1 := Holds.cell h 1
  have f0 := Holds.frozen h 0
  have f1 := Holds.frozen h 1
  have hsz := bs_size rest
  have H0 := Lib.hid h
  have HE : Hid (bs ([] : List UInt8) = ⟨#[]⟩) := rfl
  clear h
  by_cases h0 : err = 0
  · subst h0
    by_cases h1 : n < 0 ∨ (rest.length : Int) < n
    · have HP : Hid (fixedP anyR n rest 0 = ([], rest, 4)) := by
        show fixedP anyR n rest 0 = _
        unfold fixedP
        rw [if_neg (by simp), if_pos h1]
      generalize bs rest = S at *
      by_cases h2 : n < 0
      · go_enter Tryd.func21, Tryd.ntmps21
        go_wp2
        go_ret
        exact ⟨by rw [HP.out, HE.out]; rfl, by rw [HP.out]; exact Holds.set H0.out 1 _, (Moves.refl (fun k => k = Q) _).setCell (p := ⟨Q, 1, none⟩) (.inl rfl) _⟩
      · have h3 : (rest.length : Int) < n := h1.resolve_left h2
        go_enter Tryd.func21, Tryd.ntmps21
        go_wp2
        go_ret
        exact ⟨by rw [HP.out, HE.out]; rfl, by rw [HP.out]; exact Holds.set H0.out 1 _, (Moves.refl (fun k => k = Q) _).setCell (p := ⟨Q, 1, none⟩) (.inl rfl) _⟩
    · obtain ⟨m, rfl⟩ : ∃ m : Nat, n = m := ⟨n.toNat, by omega⟩
      have hml : m ≤ rest.length := by omega
      have t1 := bs_take rest m
      have t2 := bs_drop rest m
      have HP : Hid (fixedP anyR m rest 0 = (rest.take m, rest.drop m, 0)) := by
        show fixedP anyR m rest 0 = _
        unfold fixedP
        rw [if_neg (by simp), if_neg h1, Int.toNat_natCast]
        rfl
      have hb : m ≤ (bs rest).size := by omega
      have hb2 : (bs rest).size ≤ 1000000 := by omega
      obtain ⟨St, hst⟩ : ∃ St, St = bs (rest.take m) := ⟨_, rfl⟩
      obtain ⟨Sd, hsd⟩ : ∃ Sd, Sd = bs (rest.drop m) := ⟨_, rfl⟩
      rw [← hst] at t1
      rw [← hsd] at t2
      have HST := Lib.hid hst
      have HSD := Lib.hid hsd
      have HR : Hid (∀ (W : World) (r' : List UInt8) (S' : ByteArray), S' = bs r' → Holds (W) Q 28 #[.string S', .int .i64 0] → QAt W Q r' 0) := fun W r' S' hS hh => by subst hS; exact hh
      clear h1 hml hsz hst hsd
      generalize hS : bs rest = S at *
      have HS := Lib.hid hS
      clear hS
      go_enter Tryd.func21, Tryd.ntmps21
      go_wp2
      go_ret
      refine ⟨by rw [HP.out, ← HST.out]; rfl, ?_, (Moves.refl (fun k => k = Q) _).setCell (p := ⟨Q, 0, none⟩) (.inl rfl) _⟩
      rw [HP.out]
      exact HR.out _ _ _ HSD.out (Holds.set (HS.out ▸ H0.out : Holds _ Q 28 #[.string S, .int .i64 0]) 0 _)
  · have HP : Hid (fixedP anyR n rest err = ([], rest, err)) := if_pos h0
    have hq : (err != 0) = true := by simpa using h0
    go_enter Tryd.func21, Tryd.ntmps21
    go_wp2
    go_ret
    exact ⟨by rw [HP.out, HE.out]; rfl, by rw [HP.out]; exact H0.out, Moves.refl _ _⟩
end Go.Proofs.YtfbegkmogdjaiaaDoor
