/- The wire forms: zeros ahead struck; Byte, Bool, Text, Whole. -/
import Derived.Test.YtpiklkbjfpfejaaGreatDoorRefU32
import Derived.Test.YtpiklkbjfpfejaaGreatDoorU32
import Derived.LoopTactic
namespace Go.Proofs.YtpiklkbjfpfejaaGreatDoor
open Go.RowKit

def hd0 : List UInt8 → UInt8
  | [] => 0
  | b :: _ => b
def plainL : List UInt8 → List UInt8
  | [] => []
  | b :: l => if b = 0 then plainL l else b :: l
def strLen : Value → Nat
  | .string s => s.size
  | _ => 0

theorem drop_one (b : UInt8) (l : List UInt8) : (bs (b :: l)).extract 1 (bs (b :: l)).size = bs l := by
  have := bs_drop (b :: l) 1
  simpa using this

set_option maxRecDepth 100000 in
theorem trimByte_any (l : List UInt8) (hl : l.length ≤ 1000000) (w : World) : Calls Tryz.prog 123 #[.string (bs l), .int .u8 0] w fun e w' => e = .returned (.string (bs (plainL l))) ∧ w' = w := by
  go_enter Tryz.func123, Tryz.ntmps123
  go_wp2_with fail
  go_loopw [0] (fun v wr => ∃ m : List UInt8, m.length ≤ 1000000 ∧ v = .string (bs m) ∧ plainL m = plainL l ∧ wr = w) (fun v _ => strLen v)
  case atStart => exact ⟨l, hl, rfl, rfl, rfl⟩
  case round =>
    obtain ⟨m, hm, rfl, hp, rfl⟩ := hrel
    cases m with
    | nil =>
      have HP : Hid (plainL l = []) := hp.symm
      have HE : Hid (bs ([] : List UInt8) = ⟨#[]⟩) := rfl
      rw [show bs ([] : List UInt8) = ⟨#[]⟩ from rfl]
      clear hp
      go_wp2_with fail
      go_ret
      exact ⟨by rw [HP.out, HE.out]; rfl, rfl⟩
    | cons b r =>
      have hi := fun W => index_bs (b :: r) 0 (by simp) W
      simp only [List.getElem_cons_zero] at hi
      have hi0 : ∀ W : World, (Instr.index 9 (.string (bs (b :: r))) (.int .i64 0)).run Tryz.prog W = .ok (.int .u8 (b.toNat : Int)) W := hi
      have hd := drop_one b r
      have hsz := bs_size (b :: r)
      simp only [List.length_cons] at hm hsz
      have hrs := bs_size r
      by_cases hb : b = 0
      · have HP : Hid (plainL r = plainL l) := by
          show plainL r = _
          rw [← hp, plainL, if_pos hb]
        have hbn : b.toNat = 0 := by rw [hb]; rfl
        rw [hbn] at hi0
        have hi1 : ∀ W : World, (Instr.index 9 (.string (bs (b :: r))) (.int .i64 0)).run Tryz.prog W = .ok (.int .u8 0) W := hi0
        clear hi hi0 hp hbn hb
        have hpos : 0 < (bs (b :: r)).size := by omega
        have hle : (bs (b :: r)).size ≤ 1000000 := by omega
        have HR : Hid (∃ T, T = bs r) := ⟨_, rfl⟩
        obtain ⟨T, hT⟩ := HR.out
        rw [← hT] at hd hrs
        rw [hsz] at hd
        have HT := Lib.hid hT
        have HD := Lib.hid hd
        clear hT
        generalize bs (b :: r) = B at *
        go_wp2_with fail
        go_roundw
        case rel => exact ⟨r, by omega, by rw [HT.out], HP.out, trivial⟩
        case measure => simp only [strLen]; omega
      · have HP : Hid (plainL l = b :: r) := by
          show plainL l = _
          rw [← hp, plainL, if_neg hb]
        have hbn : b.toNat ≠ 0 := fun e => hb (UInt8.toNat_inj.1 e)
        have hq : ((b.toNat : Int) == 0) = false := by
          rw [beq_eq_false_iff_ne]
          omega
        have HB : Hid (bs (b :: r) = bs (b :: r)) := rfl
        have hpos : 0 < (bs (b :: r)).size := by omega
        have hle : (bs (b :: r)).size ≤ 1000000 := by omega
        clear hi hp hb hbn hd
        obtain ⟨B, hB⟩ : ∃ B, B = bs (b :: r) := ⟨_, rfl⟩
        rw [← hB] at hi0 hsz hpos hle ⊢
        have HBB := Lib.hid hB
        clear hB
        generalize b.toNat = n at *
        go_wp2_with fail
        go_ret
        exact ⟨by rw [HP.out, ← HBB.out]; rfl, rfl⟩

set_option maxRecDepth 100000 in
theorem TrimLeft_any (l : List UInt8) (hl : l.length ≤ 1000000) (w : World) : Calls Tryz.prog 109 #[.string (bs l), .string ⟨#[0]⟩] w fun e w' => e = .returned (.string (bs (plainL l))) ∧ w' = w := by
  cases l with
  | nil =>
    rw [show bs ([] : List UInt8) = ⟨#[]⟩ from rfl]
    have HP : Hid (bs (plainL []) = ⟨#[]⟩) := rfl
    go_enter Tryz.func109, Tryz.ntmps109
    go_wp2
    go_ret
    exact ⟨by rw [HP.out]; rfl, rfl⟩
  | cons b r =>
    have hne : (bs (b :: r)).toList.isEmpty = false := by
      rw [ByteArray.toList_eq]
      simp [bs]
    have hc := Lib.hid (trimByte_any (b :: r) hl)
    have hi0 : ∀ W : World, (Instr.index 9 (.string ⟨#[0]⟩) (.int .i64 0)).run Tryz.prog W = .ok (.int .u8 0) W := fun W => index_bs [0] 0 (by simp) W
    have hz : (⟨#[0]⟩ : ByteArray).toList.isEmpty = false := by rw [ByteArray.toList_eq]; rfl
    have hz1 : (⟨#[0]⟩ : ByteArray).size = 1 := rfl
    generalize (⟨#[0]⟩ : ByteArray) = Z at *
    generalize bs (b :: r) = B at *
    go_enter Tryz.func109, Tryz.ntmps109
    go_wp2_with (go_at_call 123; refine (hc.out _).mono ?_; rintro e w1 ⟨rfl, rfl⟩)
    go_ret
    exact ⟨rfl, rfl⟩

theorem unpadded_any (l : List UInt8) (hl : l.length ≤ 1000000) (w : World) : Calls Tryz.prog 86 #[.string (bs l)] w fun e w' => e = .returned (.string (bs (plainL l))) ∧ w' = w := by
  have hc := Lib.hid (TrimLeft_any l hl)
  generalize bs l = B at *
  go_enter Tryz.func86, Tryz.ntmps86
  go_wp2_with (go_at_call 109; refine (hc.out _).mono ?_; rintro e w1 ⟨rfl, rfl⟩)
  go_ret
  exact ⟨rfl, rfl⟩

theorem wByte_any (b : UInt8) (w : World) : Calls Tryz.prog 17 #[.int .u8 (b.toNat : Int)] w fun e w' => e = .returned (.string (bs [b])) ∧ Below w.heap.size w w' := by
  have hcv := run_string_new w [b] (by simp) #[.int .u8 (b.toNat : Int)] (by simp [byteCells])
  simp only [List.length_cons, List.length_nil] at hcv
  generalize b.toNat = n at *
  generalize bs [b] = B at *
  go_enter Tryz.func17, Tryz.ntmps17
  go_wp2
  go_ret
  exact ⟨rfl, (Below.refl _ _).alloc (Nat.le_refl _) _⟩
theorem wByte_zero (w : World) : Calls Tryz.prog 17 #[.int .u8 0] w fun e w' => e = .returned (.string (bs [0])) ∧ Below w.heap.size w w' := wByte_any 0 w
theorem wByte_one (w : World) : Calls Tryz.prog 17 #[.int .u8 1] w fun e w' => e = .returned (.string (bs [1])) ∧ Below w.heap.size w w' := wByte_any 1 w

def boolL (x : Bool) : List UInt8 := if x then [1] else [0]
theorem wBool_any (x : Bool) (w : World) : Calls Tryz.prog 56 #[.bool x] w fun e w' => e = .returned (.string (bs (boolL x))) ∧ Below w.heap.size w w' := by
  cases x with
  | true =>
    go_enter Tryz.func56, Tryz.ntmps56
    go_wp2_with (go_at_call 17; refine (wByte_one _).mono ?_; rintro e w1 ⟨rfl, hb⟩)
    go_ret
    exact ⟨rfl, hb⟩
  | false =>
    go_enter Tryz.func56, Tryz.ntmps56
    go_wp2_with (go_at_call 17; refine (wByte_zero _).mono ?_; rintro e w1 ⟨rfl, hb⟩)
    go_ret
    exact ⟨rfl, hb⟩

theorem wText_any (l : List UInt8) (hl : l.length ≤ 1000000) (w : World) : Calls Tryz.prog 58 #[.string (bs l)] w fun e w' => e = .returned (.string (bs (cnt l))) ∧ Below w.heap.size w w' := by
  have hsz := bs_size l
  have HE : Hid (bs (pack4 l.length) ++ bs l = bs (cnt l)) := bs_append _ _
  have hp : (bs (pack4 l.length)).size ≤ 4 := by rw [bs_size]; simp [pack4]
  have HU := Lib.hid (fun W => U32_any l.length (by omega) W)
  rw [← hsz] at HU hp HE
  have hl2 : (bs l).size ≤ 1000000 := by omega
  clear hsz hl
  generalize bs l = B at *
  generalize hS : bs (pack4 B.size) = P at *
  have HS := Lib.hid hS
  clear hS
  go_enter Tryz.func58, Tryz.ntmps58
  go_wp2_with (go_at_call 57; refine (HU.out _).mono ?_; rintro e w' ⟨rfl, hb⟩)
  go_ret
  exact ⟨by rw [← HE.out]; rfl, hb⟩

def wholeL (l : List UInt8) : List UInt8 := if 128 ≤ (hd0 (plainL l)).toNat then 0 :: plainL l else plainL l
theorem plainL_le : ∀ l : List UInt8, (plainL l).length ≤ l.length
  | [] => Nat.le_refl _
  | b :: l => by
    have := plainL_le l
    unfold plainL
    split
    · simp; omega
    · exact Nat.le_refl _
theorem wholeL_le (l : List UInt8) : (wholeL l).length ≤ l.length + 1 := by
  have := plainL_le l
  unfold wholeL
  split
  · simp; omega
  · omega

set_option maxRecDepth 100000 in
theorem wWhole_any (l : List UInt8) (hl : l.length ≤ 100000) (w : World) : Calls Tryz.prog 60 #[.string (bs l)] w fun e w' => e = .returned (.string (bs (cnt (wholeL l)))) ∧ Below w.heap.size w w' := by
  have HU := Lib.hid (fun W => unpadded_any l (by omega) W)
  have hw := plainL_le l
  have hwh := wholeL_le l
  have HT := Lib.hid (fun W => wText_any (wholeL l) (by omega) W)
  have HW : Hid (wholeL l = if 128 ≤ (hd0 (plainL l)).toNat then 0 :: plainL l else plainL l) := rfl
  generalize wholeL l = wl at *
  generalize plainL l = p at *
  obtain ⟨B, hB⟩ : ∃ B, B = bs l := ⟨_, rfl⟩
  rw [← hB] at HU ⊢
  clear hB
  cases p with
  | nil =>
    have HW2 : Hid (wl = []) := HW.out
    have hT : Hid (∀ W : World, Calls Tryz.prog 58 #[.string ⟨#[]⟩] W fun e w' => e = .returned (.string (bs (cnt wl))) ∧ Below W.heap.size W w') := by
      have := HT.out
      rw [HW2.out] at this ⊢
      exact this
    have HU2 : Hid (∀ W : World, Calls Tryz.prog 86 #[.string B] W fun e w' => e = .returned (.string ⟨#[]⟩) ∧ w' = W) := HU.out
    clear HU HT HW HW2 hw
    generalize cnt wl = cl at *
    go_enter Tryz.func60, Tryz.ntmps60
    go_wp2_with (first
      | (go_at_call 86; refine (HU2.out _).mono ?_; rintro e w' ⟨rfl, rfl⟩)
      | (go_at_call 58; refine (hT.out _).mono ?_; rintro e w' ⟨rfl, hb⟩))
    go_ret
    exact ⟨rfl, hb⟩
  | cons b r =>
    have hne : (bs (b :: r)).toList.isEmpty = false := by
      rw [ByteArray.toList_eq]
      simp [bs]
    have hi0 : ∀ W : World, (Instr.index 9 (.string (bs (b :: r))) (.int .i64 0)).run Tryz.prog W = .ok (.int .u8 (b.toNat : Int)) W := fun W => index_bs (b :: r) 0 (by simp) W
    have hsz := bs_size (b :: r)
    by_cases hb : 128 ≤ b.toNat
    · have HW2 : wl = 0 :: b :: r := by
        have := HW.out
        rwa [if_pos (by exact hb)] at this
      have hq : ((b.toNat : Int) ≥ 128) := by omega
      have HA : Hid (bs [0] ++ bs (b :: r) = bs (0 :: b :: r)) := bs_append _ _
      rw [HW2] at HT ⊢
      have h1 : (bs [0]).size ≤ 1 := by rw [bs_size]; simp
      have h2 : (bs (b :: r)).size ≤ 1000000 := by rw [bs_size]; omega
      rw [← HA.out] at HT
      generalize cnt (0 :: b :: r) = cl at *
      clear HW HW2 hsz hb HA
      generalize bs (b :: r) = C at *
      obtain ⟨Z, hZ⟩ : ∃ Z, Z = bs [0] := ⟨_, rfl⟩
      have hz := fun W => wByte_zero W
      rw [← hZ] at HT h1
      have HZ : Hid (∀ W : World, Calls Tryz.prog 17 #[.int .u8 0] W fun e w' => e = .returned (.string Z) ∧ Below W.heap.size W w') := by rw [hZ]; exact hz
      clear hZ hz
      generalize b.toNat = n at *
      go_enter Tryz.func60, Tryz.ntmps60
      go_wp2_with (first
        | (go_at_call 86; refine (HU.out _).mono ?_; rintro e w1 ⟨rfl, rfl⟩)
        | (go_at_call 17; refine (HZ.out _).mono ?_; rintro e w2 ⟨rfl, hb2⟩)
        | (go_at_call 58; refine (HT.out _).mono ?_; rintro e w3 ⟨rfl, hb3⟩))
      go_ret
      exact ⟨rfl, hb2.trans (hb3.mono hb2.size)⟩
    · have HW2 : wl = b :: r := by
        have := HW.out
        rwa [if_neg (by exact hb)] at this
      have hq : decide ((b.toNat : Int) ≥ 128) = false := decide_eq_false (by omega)
      rw [HW2] at HT ⊢
      generalize cnt (b :: r) = cl at *
      clear HW HW2 hsz hb
      generalize bs (b :: r) = C at *
      generalize b.toNat = n at *
      go_enter Tryz.func60, Tryz.ntmps60
      go_wp2_with (first
        | (go_at_call 86; refine (HU.out _).mono ?_; rintro e w1 ⟨rfl, rfl⟩)
        | (go_at_call 58; refine (HT.out _).mono ?_; rintro e w3 ⟨rfl, hb3⟩))
      go_ret
      exact ⟨rfl, hb3⟩

end Go.Proofs.YtpiklkbjfpfejaaGreatDoor
