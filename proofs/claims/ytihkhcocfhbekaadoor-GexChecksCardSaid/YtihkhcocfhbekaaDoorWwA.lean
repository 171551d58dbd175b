/- Zeros ahead of a number struck off. -/
import Derived.Test.YtihkhcocfhbekaaDoorStr
import Derived.Test.YtihkhcocfhbekaaDoorConvB
import Derived.LoopTactic
namespace Go.Proofs.YtihkhcocfhbekaaDoor
open Go.RowKit

def hd0 : List UInt8 → UInt8
  | [] => 0
  | b :: _ => b
def plainL : List UInt8 → List UInt8
  | [] => []
  | b :: l => if b = 0 then plainL l else b :: l
def strLen : Value → Nat
  | .string s => s.size
  | _ => 0

theorem drop_one (b : UInt8) (l : List UInt8) : (bs (b :: l)).extract 1 (bs (b :: l)).size = bs l := by
  have := bs_drop (b :: l) 1
  simpa using this

set_option maxRecDepth 100000 in
theorem trimByte_any (l : List UInt8) (hl : l.length ≤ 1000000) (w : World) : Calls Tryd.prog 84 #[.string (bs l), .int .u8 0] w fun e w' => e = .returned (.string (bs (plainL l))) ∧ w' = w := by
  go_enter Tryd.func84, Tryd.ntmps84
  go_wp2_with fail
  go_loopw [0] (fun v wr => ∃ m : List UInt8, m.length ≤ 1000000 ∧ v = .string (bs m) ∧ plainL m = plainL l ∧ wr = w) (fun v _ => strLen v)
  case atStart => exact ⟨l, hl, rfl, rfl, rfl⟩
  case round =>
    obtain ⟨m, hm, rfl, hp, rfl⟩ := hrel
    cases m with
    | nil =>
      have HP : Hid (plainL l = []) := hp.symm
      have HE : Hid (bs ([] : List UInt8) = ⟨#[]⟩) := rfl
      rw [show bs ([] : List UInt8) = ⟨#[]⟩ from rfl]
      clear hp
      go_wp2_with fail
      go_ret
      exact ⟨by rw [HP.out, HE.out]; rfl, rfl⟩
    | cons b r =>
      have hi := fun W => index_bs (b :: r) 0 (by simp) W
      simp only [List.getElem_cons_zero] at hi
      have hi0 : ∀ W : World, (Instr.index 9 (.string (bs (b :: r))) (.int .i64 0)).run Tryd.prog W = .ok (.int .u8 (b.toNat : Int)) W := hi
      have hd := drop_one b r
      have hsz := bs_size (b :: r)
      simp only [List.length_cons] at hm hsz
      have hrs := bs_size r
      by_cases hb : b = 0
      · have HP : Hid (plainL r = plainL l) := by
          show plainL r = _
          rw [← hp, plainL, if_pos hb]
        have hbn : b.toNat = 0 := by rw [hb]; rfl
        rw [hbn] at hi0
        have hi1 : ∀ W : World, (Instr.index 9 (.string (bs (b :: r))) (.int .i64 0)).run Tryd.prog W = .ok (.int .u8 0) W := hi0
        clear hi hi0 hp hbn hb
        have hpos : 0 < (bs (b :: r)).size := by omega
        have hle : (bs (b :: r)).size ≤ 1000000 := by omega
        have HR : Hid (∃ T, T = bs r) := ⟨_, rfl⟩
        obtain ⟨T, hT⟩ := HR.out
        rw [← hT] at hd hrs
        rw [hsz] at hd
        have HT := Lib.hid hT
        have HD := Lib.hid hd
        clear hT
        generalize bs (b :: r) = B at *
        go_wp2_with fail
        go_roundw
        case rel => exact ⟨r, by omega, by rw [HT.out], HP.out, trivial⟩
        case measure => simp only [strLen]; omega
      · have HP : Hid (plainL l = b :: r) := by
          show plainL l = _
          rw [← hp, plainL, if_neg hb]
        have hbn : b.toNat ≠ 0 := fun e => hb (UInt8.toNat_inj.1 e)
        have hq : ((b.toNat : Int) == 0) = false := by
          rw [beq_eq_false_iff_ne]
          omega
        have HB : Hid (bs (b :: r) = bs (b :: r)) := rfl
        have hpos : 0 < (bs (b :: r)).size := by omega
        have hle : (bs (b :: r)).size ≤ 1000000 := by omega
        clear hi hp hb hbn hd
        obtain ⟨B, hB⟩ : ∃ B, B = bs (b :: r) := ⟨_, rfl⟩
        rw [← hB] at hi0 hsz hpos hle ⊢
        have HBB := Lib.hid hB
        clear hB
        generalize b.toNat = n at *
        go_wp2_with fail
        go_ret
        exact ⟨by rw [HP.out, ← HBB.out]; rfl, rfl⟩

set_option maxRecDepth 100000 in
theorem TrimLeft_any (l : List UInt8) (hl : l.length ≤ 1000000) (w : World) : Calls Tryd.prog 76 #[.string (bs l), .string ⟨#[0]⟩] w fun e w' => e = .returned (.string (bs (plainL l))) ∧ w' = w := by
  cases l with
  | nil =>
    rw [show bs ([] : List UInt8) = ⟨#[]⟩ from rfl]
    have HP : Hid (bs (plainL []) = ⟨#[]⟩) := rfl
    go_enter Tryd.func76, Tryd.ntmps76
    go_wp2
    go_ret
    exact ⟨by rw [HP.out]; rfl, rfl⟩
  | cons b r =>
    have hne : (bs (b :: r)).toList.isEmpty = false := by
      rw [ByteArray.toList_eq]
      simp [bs]
    have hc := Lib.hid (trimByte_any (b :: r) hl)
    have hi0 : ∀ W : World, (Instr.index 9 (.string ⟨#[0]⟩) (.int .i64 0)).run Tryd.prog W = .ok (.int .u8 0) W := fun W => index_bs [0] 0 (by simp) W
    have hz : (⟨#[0]⟩ : ByteArray).toList.isEmpty = false := by rw [ByteArray.toList_eq]; rfl
    have hz1 : (⟨#[0]⟩ : ByteArray).size = 1 := rfl
    generalize (⟨#[0]⟩ : ByteArray) = Z at *
    generalize bs (b :: r) = B at *
    go_enter Tryd.func76, Tryd.ntmps76
    go_wp2_with (go_at_call 84; refine (hc.out _).mono ?_; rintro e w1 ⟨rfl, rfl⟩)
    go_ret
    exact ⟨rfl, rfl⟩

theorem unpadded_any (l : List UInt8) (hl : l.length ≤ 1000000) (w : World) : Calls Tryd.prog 68 #[.string (bs l)] w fun e w' => e = .returned (.string (bs (plainL l))) ∧ w' = w := by
  have hc := Lib.hid (TrimLeft_any l hl)
  generalize bs l = B at *
  go_enter Tryd.func68, Tryd.ntmps68
  go_wp2_with (go_at_call 76; refine (hc.out _).mono ?_; rintro e w1 ⟨rfl, rfl⟩)
  go_ret
  exact ⟨rfl, rfl⟩

theorem plainL_le : ∀ l : List UInt8, (plainL l).length ≤ l.length
  | [] => Nat.le_refl _
  | b :: l => by
    have := plainL_le l
    unfold plainL
    split
    · simp; omega
    · exact Nat.le_refl _
end Go.Proofs.YtihkhcocfhbekaaDoor
