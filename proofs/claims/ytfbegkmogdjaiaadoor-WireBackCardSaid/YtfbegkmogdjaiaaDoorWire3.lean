/- Zeros ahead struck; the reader's Text and Whole; a nil reader. -/
import Derived.Test.YtfbegkmogdjaiaaDoorWire2
namespace Go.Proofs.YtfbegkmogdjaiaaDoor
open Go.RowKit

def plainL : List UInt8 → List UInt8
  | [] => []
  | b :: l => if b = 0 then plainL l else b :: l
def strLen : Value → Nat
  | .string s => s.size
  | _ => 0

theorem drop_one (b : UInt8) (l : List UInt8) : (bs (b :: l)).extract 1 (bs (b :: l)).size = bs l := by
  have := bs_drop (b :: l) 1
  simpa using this

set_option maxRecDepth 100000 in
theorem trimByte_any (l : List UInt8) (hl : l.length ≤ 1000000) (w : World) : Calls Tryd.prog 65 #[.string (bs l), .int .u8 0] w fun e w' => e = .returned (.string (bs (plainL l))) ∧ w' = w := by
  go_enter Tryd.func65, Tryd.ntmps65
  go_wp2_with fail
  go_loopw [0] (fun v wr => ∃ m : List UInt8, m.length ≤ 1000000 ∧ v = .string (bs m) ∧ plainL m = plainL l ∧ wr = w) (fun v _ => strLen v)
  case atStart => exact ⟨l, hl, rfl, rfl, rfl⟩
  case round =>
    obtain ⟨m, hm, rfl, hp, rfl⟩ := hrel
    cases m with
    | nil =>
      have HP : Hid (plainL l = []) := hp.symm
      have HE : Hid (bs ([] : List UInt8) = ⟨#[]⟩) := rfl
      rw [show bs ([] : List UInt8) = ⟨#[]⟩ from rfl]
      clear hp
      go_wp2_with fail
      go_ret
      exact ⟨by rw [HP.out, HE.out]; rfl, rfl⟩
    | cons b r =>
      have hi := fun W => index_bs (b :: r) 0 (by simp) W
      simp only [List.getElem_cons_zero] at hi
      have hi0 : ∀ W : World, (Instr.index 9 (.string (bs (b :: r))) (.int .i64 0)).run Tryd.prog W = .ok (.int .u8 (b.toNat : Int)) W := hi
      have hd := drop_one b r
      have hsz := bs_size (b :: r)
      simp only [List.length_cons] at hm hsz
      have hrs := bs_size r
      by_cases hb : b = 0
      · have HP : Hid (plainL r = plainL l) := by
          show plainL r = _
          rw [← hp, plainL, if_pos hb]
        have hbn : b.toNat = 0 := by rw [hb]; rfl
        rw [hbn] at hi0
        have hi1 : ∀ W : World, (Instr.index 9 (.string (bs (b :: r))) (.int .i64 0)).run Tryd.prog W = .ok (.int .u8 0) W := hi0
        clear hi hi0 hp hbn hb
        have hpos : 0 < (bs (b :: r)).size := by omega
        have hle : (bs (b :: r)).size ≤ 1000000 := by omega
        have HR : Hid (∃ T, T = bs r) := ⟨_, rfl⟩
        obtain ⟨T, hT⟩ := HR.out
        rw [← hT] at hd hrs
        rw [hsz] at hd
        have HT := Lib.hid hT
        have HD := Lib.hid hd
        clear hT
        generalize bs (b :: r) = B at *
        go_wp2_with fail
        go_roundw
        case rel => exact ⟨r, by omega, by rw [HT.out], HP.out, trivial⟩
        case measure => simp only [strLen]; omega
      · have HP : Hid (plainL l = b :: r) := by
          show plainL l = _
          rw [← hp, plainL, if_neg hb]
        have hbn : b.toNat ≠ 0 := fun e => hb (UInt8.toNat_inj.1 e)
        have hq : ((b.toNat : Int) == 0) = false := by
          rw [beq_eq_false_iff_ne]
          omega
        have HB : Hid (bs (b :: r) = bs (b :: r)) := rfl
        have hpos : 0 < (bs (b :: r)).size := by omega
        have hle : (bs (b :: r)).size ≤ 1000000 := by omega
        clear hi hp hb hbn hd
        obtain ⟨B, hB⟩ : ∃ B, B = bs (b :: r) := ⟨_, rfl⟩
        rw [← hB] at hi0 hsz hpos hle ⊢
        have HBB := Lib.hid hB
        clear hB
        generalize b.toNat = n at *
        go_wp2_with fail
        go_ret
        exact ⟨by rw [HP.out, ← HBB.out]; rfl, rfl⟩

set_option maxRecDepth 100000 in
theorem TrimLeft_any (l : List UInt8) (hl : l.length ≤ 1000000) (w : World) : Calls Tryd.prog 57 #[.string (bs l), .string ⟨#[0]⟩] w fun e w' => e = .returned (.string (bs (plainL l))) ∧ w' = w := by
  cases l with
  | nil =>
    rw [show bs ([] : List UInt8) = ⟨#[]⟩ from rfl]
    have HP : Hid (bs (plainL []) = ⟨#[]⟩) := rfl
    go_enter Tryd.func57, Tryd.ntmps57
    go_wp2
    go_ret
    exact ⟨by rw [HP.out]; rfl, rfl⟩
  | cons b r =>
    have hne : (bs (b :: r)).toList.isEmpty = false := by
      rw [ByteArray.toList_eq]
      simp [bs]
    have hc := Lib.hid (trimByte_any (b :: r) hl)
    have hi0 : ∀ W : World, (Instr.index 9 (.string ⟨#[0]⟩) (.int .i64 0)).run Tryd.prog W = .ok (.int .u8 0) W := fun W => index_bs [0] 0 (by simp) W
    have hz : (⟨#[0]⟩ : ByteArray).toList.isEmpty = false := by rw [ByteArray.toList_eq]; rfl
    have hz1 : (⟨#[0]⟩ : ByteArray).size = 1 := rfl
    generalize (⟨#[0]⟩ : ByteArray) = Z at *
    generalize bs (b :: r) = B at *
    go_enter Tryd.func57, Tryd.ntmps57
    go_wp2_with (go_at_call 65; refine (hc.out _).mono ?_; rintro e w1 ⟨rfl, rfl⟩)
    go_ret
    exact ⟨rfl, rfl⟩

theorem unpadded_any (l : List UInt8) (hl : l.length ≤ 1000000) (w : World) : Calls Tryd.prog 47 #[.string (bs l)] w fun e w' => e = .returned (.string (bs (plainL l))) ∧ w' = w := by
  have hc := Lib.hid (TrimLeft_any l hl)
  generalize bs l = B at *
  go_enter Tryd.func47, Tryd.ntmps47
  go_wp2_with (go_at_call 57; refine (hc.out _).mono ?_; rintro e w1 ⟨rfl, rfl⟩)
  go_ret
  exact ⟨rfl, rfl⟩

def wholeR : List UInt8 → Bool
  | [] => true
  | [b] => decide (b.toNat ≠ 0 ∧ b.toNat < 128)
  | b :: c :: _ => if b.toNat ≠ 0 then decide (b.toNat < 128) else decide (128 ≤ c.toNat)

set_option maxRecDepth 100000 in
theorem wWhole1_any (l : List UInt8) (hl : l.length ≤ 1000000) (w : World) : Calls Tryd.prog 48 #[.string (bs l)] w fun e w' => e = .returned (.bool (wholeR l)) ∧ w' = w := by
  cases l with
  | nil =>
    rw [show bs ([] : List UInt8) = ⟨#[]⟩ from rfl]
    have HP : Hid (wholeR [] = true) := rfl
    go_enter Tryd.func48, Tryd.ntmps48
    go_wp2
    go_ret
    exact ⟨by rw [HP.out]; rfl, rfl⟩
  | cons b r =>
    have hne : (bs (b :: r)).toList.isEmpty = false := by
      rw [ByteArray.toList_eq]
      simp [bs]
    have hi0 : ∀ W : World, (Instr.index 9 (.string (bs (b :: r))) (.int .i64 0)).run Tryd.prog W = .ok (.int .u8 (b.toNat : Int)) W := fun W => index_bs (b :: r) 0 (by simp) W
    have hsz := bs_size (b :: r)
    by_cases hb : b.toNat = 0
    · cases r with
      | nil =>
        have HP : Hid (wholeR [b] = false) := by
          show wholeR [b] = false
          simp [wholeR, hb]
        rw [hb] at hi0
        have hi1 : ∀ W : World, (Instr.index 9 (.string (bs [b])) (.int .i64 0)).run Tryd.prog W = .ok (.int .u8 0) W := hi0
        simp only [List.length_cons, List.length_nil] at hsz
        clear hi0
        generalize bs [b] = B at *
        go_enter Tryd.func48, Tryd.ntmps48
        go_wp2
        go_ret
        exact ⟨by rw [HP.out]; rfl, rfl⟩
      | cons c r =>
        have HP : Hid (wholeR (b :: c :: r) = decide (128 ≤ c.toNat)) := by
          show wholeR (b :: c :: r) = _
          simp [wholeR, hb]
        have hi2 : ∀ W : World, (Instr.index 9 (.string (bs (b :: c :: r))) (.int .i64 1)).run Tryd.prog W = .ok (.int .u8 (c.toNat : Int)) W := fun W => index_bs (b :: c :: r) 1 (by simp) W
        rw [hb] at hi0
        have hi1 : ∀ W : World, (Instr.index 9 (.string (bs (b :: c :: r))) (.int .i64 0)).run Tryd.prog W = .ok (.int .u8 0) W := hi0
        simp only [List.length_cons] at hsz hl
        have hs1 : 1 < (bs (b :: c :: r)).size := by omega
        have hs2 : (bs (b :: c :: r)).size ≤ 1000000 := by omega
        have HD : Hid (decide ((c.toNat : Int) ≥ 128) = decide (128 ≤ c.toNat)) := by
          show decide ((c.toNat : Int) ≥ 128) = decide (128 ≤ c.toNat)
          exact decide_eq_decide.2 (by omega)
        clear hi0 hsz hl
        generalize bs (b :: c :: r) = B at *
        generalize c.toNat = n at *
        go_enter Tryd.func48, Tryd.ntmps48
        go_wp2
        go_ret
        exact ⟨by rw [HP.out, ← HD.out]; rfl, rfl⟩
    · have HP : Hid (wholeR (b :: r) = decide (b.toNat < 128)) := by
        show wholeR (b :: r) = _
        cases r with
        | nil => simp [wholeR, hb]
        | cons c r => simp [wholeR, hb]
      have hq : ((b.toNat : Int) != 0) = true := by
        rw [bne_iff_ne]
        omega
      have HD : Hid (decide ((b.toNat : Int) < 128) = decide (b.toNat < 128)) := by
        show decide ((b.toNat : Int) < 128) = decide (b.toNat < 128)
        exact decide_eq_decide.2 (by omega)
      clear hsz hl hb
      generalize bs (b :: r) = B at *
      generalize b.toNat = n at *
      go_enter Tryd.func48, Tryd.ntmps48
      go_wp2
      go_ret
      exact ⟨by rw [HP.out, ← HD.out]; rfl, rfl⟩

def countedP (right : List UInt8 → Bool) (rest : List UInt8) (err : Int) : List UInt8 × List UInt8 × Int :=
  let u := u32Q rest err
  let p := fixedP right u.1 u.2.1 u.2.2
  if p.2.2 = 0 then p else (p.1, rest, p.2.2)

theorem fixedP_rest (right : List UInt8 → Bool) (n : Int) (rest : List UInt8) (err : Int) : (fixedP right n rest err).2.1.length ≤ rest.length := by
  unfold fixedP
  split
  · simp
  · split
    · simp
    · split
      · simp
      · simp
theorem u32Q_lt (rest : List UInt8) (err : Int) : (u32Q rest err).1 < 4294967296 := by
  have h1 := fixedP_len anyR 4 rest err
  show numL (fixedP anyR 4 rest err).1 < _
  have h2 := numL_lt (fixedP anyR 4 rest err).1 _ (Nat.le_refl _)
  rw [List.take_length] at h2
  have : 256 ^ (fixedP anyR 4 rest err).1.length ≤ 256 ^ 4 := Nat.pow_le_pow_right (by omega) h1
  omega

set_option maxRecDepth 100000 in
theorem counted_any {w : World} {R : Nat} {rest : List UInt8} {err : Int} (h : WAt w R rest err) (hr : rest.length ≤ 1000000) :
    Calls Tryd.prog 46 #[.pointer (some ⟨R, 0, none⟩), .func (.func 43) #[] #[]] w fun e w' => e = .returned (.string (bs (countedP anyR rest err).1)) ∧ WAt w' R (countedP anyR rest err).2.1 (countedP anyR rest err).2.2 ∧ Moves (fun k => k = R) w w' := by
  have hu := rU32_any h hr
  have hlt := u32Q_lt rest err
  have hul : (u32Q rest err).2.1.length ≤ 1000000 := Nat.le_trans (fixedP_rest anyR 4 rest err) hr
  have HC : Hid (countedP anyR rest err = if (fixedP anyR (u32Q rest err).1 (u32Q rest err).2.1 (u32Q rest err).2.2).2.2 = 0 then fixedP anyR (u32Q rest err).1 (u32Q rest err).2.1 (u32Q rest err).2.2 else ((fixedP anyR (u32Q rest err).1 (u32Q rest err).2.1 (u32Q rest err).2.2).1, rest, (fixedP anyR (u32Q rest err).1 (u32Q rest err).2.1 (u32Q rest err).2.2).2.2)) := rfl
  generalize u32Q rest err = u at *
  obtain ⟨n, r1, e1⟩ := u
  simp only at hu hlt hul HC
  have hf : Hid (∀ W : World, WAt W R r1 e1 → Calls Tryd.prog 42 #[.pointer (some ⟨R, 0, none⟩), .int .i64 n, .func (.func 43) #[] #[]] W fun e w' => e = .returned (.string (bs (fixedP anyR n r1 e1).1)) ∧ WAt w' R (fixedP anyR n r1 e1).2.1 (fixedP anyR n r1 e1).2.2 ∧ Moves (fun k => k = R) W w') :=
    fun W hW => fixed_any hW hul n anyR (fun _ _ W => wAny_any _ W)
  generalize fixedP anyR n r1 e1 = p at *
  obtain ⟨s, r2, e2⟩ := p
  simp only at hf HC
  have c0 := Holds.cell h 0
  have HU := Lib.hid hu
  clear hu hr hul h
  obtain ⟨B, hB⟩ : ∃ B, B = bs rest := ⟨_, rfl⟩
  rw [← hB] at c0
  have HB := Lib.hid hB
  clear hB
  by_cases he : e2 = 0
  · subst he
    simp only [if_true] at HC
    go_enter Tryd.func46, Tryd.ntmps46
    go_wp2_with (first
      | (go_at_call 14; refine HU.out.mono ?_; rintro e w1 ⟨rfl, h1, m1⟩)
      | (go_at_call 42; refine (hf.out _ h1).mono ?_; rintro e w2 ⟨rfl, h2, m2⟩; have d1 := Holds.cell h2 1))
    go_ret
    exact ⟨by rw [HC.out]; rfl, by rw [HC.out]; exact h2, m1.trans m2 fun i hi => .inl hi⟩
  · rw [if_neg he] at HC
    have hq : (e2 != 0) = true := by simpa using he
    go_enter Tryd.func46, Tryd.ntmps46
    go_wp2_with (first
      | (go_at_call 14; refine HU.out.mono ?_; rintro e w1 ⟨rfl, h1, m1⟩)
      | (go_at_call 42; refine (hf.out _ h1).mono ?_; rintro e w2 ⟨rfl, h2, m2⟩; have d1 := Holds.cell h2 1; have d0 := Holds.cell h2 0; have f0 := Holds.frozen h2 0))
    go_ret
    refine ⟨by rw [HC.out]; rfl, ?_, (m1.trans m2 fun i hi => .inl hi).setCell (p := ⟨R, 0, none⟩) (.inl rfl) _⟩
    rw [HC.out]
    have := Holds.set h2 0 (.string B)
    rw [HB.out] at this ⊢
    exact this

set_option maxRecDepth 100000 in
theorem counted_whole {w : World} {R : Nat} {rest : List UInt8} {err : Int} (h : WAt w R rest err) (hr : rest.length ≤ 1000000) :
    Calls Tryd.prog 46 #[.pointer (some ⟨R, 0, none⟩), .func (.func 48) #[] #[]] w fun e w' => e = .returned (.string (bs (countedP wholeR rest err).1)) ∧ WAt w' R (countedP wholeR rest err).2.1 (countedP wholeR rest err).2.2 ∧ Moves (fun k => k = R) w w' := by
  have hu := rU32_any h hr
  have hlt := u32Q_lt rest err
  have hul : (u32Q rest err).2.1.length ≤ 1000000 := Nat.le_trans (fixedP_rest anyR 4 rest err) hr
  have HC : Hid (countedP wholeR rest err = if (fixedP wholeR (u32Q rest err).1 (u32Q rest err).2.1 (u32Q rest err).2.2).2.2 = 0 then fixedP wholeR (u32Q rest err).1 (u32Q rest err).2.1 (u32Q rest err).2.2 else ((fixedP wholeR (u32Q rest err).1 (u32Q rest err).2.1 (u32Q rest err).2.2).1, rest, (fixedP wholeR (u32Q rest err).1 (u32Q rest err).2.1 (u32Q rest err).2.2).2.2)) := rfl
  generalize u32Q rest err = u at *
  obtain ⟨n, r1, e1⟩ := u
  simp only at hu hlt hul HC
  have hf : Hid (∀ W : World, WAt W R r1 e1 → Calls Tryd.prog 42 #[.pointer (some ⟨R, 0, none⟩), .int .i64 n, .func (.func 48) #[] #[]] W fun e w' => e = .returned (.string (bs (fixedP wholeR n r1 e1).1)) ∧ WAt w' R (fixedP wholeR n r1 e1).2.1 (fixedP wholeR n r1 e1).2.2 ∧ Moves (fun k => k = R) W w') :=
    fun W hW => fixed_whole hW hul n wholeR (fun _ _ W => wWhole1_any _ (by rw [List.length_take]; omega) W)
  generalize fixedP wholeR n r1 e1 = p at *
  obtain ⟨s, r2, e2⟩ := p
  simp only at hf HC
  have c0 := Holds.cell h 0
  have HU := Lib.hid hu
  clear hu hr hul h
  obtain ⟨B, hB⟩ : ∃ B, B = bs rest := ⟨_, rfl⟩
  rw [← hB] at c0
  have HB := Lib.hid hB
  clear hB
  by_cases he : e2 = 0
  · subst he
    simp only [if_true] at HC
    go_enter Tryd.func46, Tryd.ntmps46
    go_wp2_with (first
      | (go_at_call 14; refine HU.out.mono ?_; rintro e w1 ⟨rfl, h1, m1⟩)
      | (go_at_call 42; refine (hf.out _ h1).mono ?_; rintro e w2 ⟨rfl, h2, m2⟩; have d1 := Holds.cell h2 1))
    go_ret
    exact ⟨by rw [HC.out]; rfl, by rw [HC.out]; exact h2, m1.trans m2 fun i hi => .inl hi⟩
  · rw [if_neg he] at HC
    have hq : (e2 != 0) = true := by simpa using he
    go_enter Tryd.func46, Tryd.ntmps46
    go_wp2_with (first
      | (go_at_call 14; refine HU.out.mono ?_; rintro e w1 ⟨rfl, h1, m1⟩)
      | (go_at_call 42; refine (hf.out _ h1).mono ?_; rintro e w2 ⟨rfl, h2, m2⟩; have d1 := Holds.cell h2 1; have d0 := Holds.cell h2 0; have f0 := Holds.frozen h2 0))
    go_ret
    refine ⟨by rw [HC.out]; rfl, ?_, (m1.trans m2 fun i hi => .inl hi).setCell (p := ⟨R, 0, none⟩) (.inl rfl) _⟩
    rw [HC.out]
    have := Holds.set h2 0 (.string B)
    rw [HB.out] at this ⊢
    exact this

theorem fixedP_word (right : List UInt8 → Bool) (n : Int) (rest : List UInt8) (err : Int) : (fixedP right n rest err).1.length ≤ rest.length := by
  unfold fixedP
  split
  · simp
  · split
    · simp
    · split
      · simp; omega
      · simp
theorem countedP_word (right : List UInt8 → Bool) (rest : List UInt8) (err : Int) : (countedP right rest err).1.length ≤ rest.length := by
  have h := Nat.le_trans (fixedP_word right (u32Q rest err).1 (u32Q rest err).2.1 (u32Q rest err).2.2) (fixedP_rest anyR 4 rest err)
  unfold countedP
  show (if (fixedP right (u32Q rest err).1 (u32Q rest err).2.1 (u32Q rest err).2.2).2.2 = 0 then fixedP right (u32Q rest err).1 (u32Q rest err).2.1 (u32Q rest err).2.2 else ((fixedP right (u32Q rest err).1 (u32Q rest err).2.1 (u32Q rest err).2.2).1, rest, (fixedP right (u32Q rest err).1 (u32Q rest err).2.1 (u32Q rest err).2.2).2.2)).1.length ≤ _
  split <;> exact h
theorem rText_any {w : World} {R : Nat} {rest : List UInt8} {err : Int} (h : WAt w R rest err) (hr : rest.length ≤ 1000000) :
    Calls Tryd.prog 16 #[.pointer (some ⟨R, 0, none⟩)] w fun e w' => e = .returned (.string (bs (countedP anyR rest err).1)) ∧ WAt w' R (countedP anyR rest err).2.1 (countedP anyR rest err).2.2 ∧ Moves (fun k => k = R) w w' := by
  have hf := Lib.hid (counted_any h hr)
  generalize countedP anyR rest err = p at *
  clear h hr
  go_enter Tryd.func16, Tryd.ntmps16
  go_wp2_with (go_at_call 46; refine hf.out.mono ?_; rintro e w1 ⟨rfl, h1, h2⟩)
  go_ret
  exact ⟨rfl, h1, h2⟩
theorem rWhole_any {w : World} {R : Nat} {rest : List UInt8} {err : Int} (h : WAt w R rest err) (hr : rest.length ≤ 1000000) :
    Calls Tryd.prog 18 #[.pointer (some ⟨R, 0, none⟩)] w fun e w' => e = .returned (.string (bs (plainL (countedP wholeR rest err).1))) ∧ WAt w' R (countedP wholeR rest err).2.1 (countedP wholeR rest err).2.2 ∧ Moves (fun k => k = R) w w' := by
  have hf := Lib.hid (counted_whole h hr)
  have hw := countedP_word wholeR rest err
  generalize countedP wholeR rest err = p at *
  have HU := Lib.hid (fun W => unpadded_any p.1 (by omega) W)
  clear h hr hw
  go_enter Tryd.func18, Tryd.ntmps18
  go_wp2_with (first
    | (go_at_call 46; refine hf.out.mono ?_; rintro e w1 ⟨rfl, h1, h2⟩)
    | (go_at_call 47; refine (HU.out _).mono ?_; rintro e w2 ⟨rfl, rfl⟩))
  go_ret
  exact ⟨rfl, h1, h2⟩
end Go.Proofs.YtfbegkmogdjaiaaDoor
