/- Part 23 of what the statement wants. -/
import Derived.Test.YtobhpclemmhpoaaGreatDoorPk00
import Derived.Test.YtobhpclemmhpoaaGreatDoorPk20
import Derived.Test.YtobhpclemmhpoaaGreatDoorPk21
import Derived.Test.YtobhpclemmhpoaaGreatDoorPk22
namespace Go.Proofs.YtobhpclemmhpoaaGreatDoor
open Go.RowKit

section
variable {B A n : Nat} {w0 W : World} {P : List (Int × List UInt8)}
set_option maxHeartbeats 4000000 in
set_option maxRecDepth 100000 in
theorem xHash_any (h : Ta B w0 A P n W) (hn : n ≤ 900) (v0 v1 v2 v3 : List UInt8) (hv : v0.length ≤ 10000 ∧ v1.length ≤ 10000 ∧ v2.length ≤ 10000 ∧ v3.length ≤ 10000) (asks : Bool) (kk ke kf kt : Int) (a0 a1 a2 : Nat) (h0 : a0 < 4294967296) (h1 : a1 < 4294967296) (h2 : a2 < 4294967296) (gp gg : List UInt8) (hp : gp.length ≤ 10000) (hg : gg.length ≤ 10000) {tk te tf tt : List UInt8} (mk : (kk, tk) ∈ P) (me : (ke, te) ∈ P) (mf : (kf, tf) ∈ P) (mt : (kt, tt) ∈ P) :
    Calls Tryz.prog 14 #[.pointer (some ⟨A, 0, none⟩), .agg #[.string (bs v0), .string (bs v1), .string (bs v2), .string (bs v3), .int .i64 kk, .bool asks, .int .u32 (a0 : Int), .int .u32 (a1 : Int), .int .u32 (a2 : Int), .string (bs gp), .string (bs gg), .int .i64 ke, .int .i64 kf, .int .i64 kt]] W (TaPost B w0 A P (n + 11) W (refHashL (refListL (listL20 [v0, v1, v2, v3] tk asks (askL a0 a1 a2 gp gg) te tf tt)))) := by
  obtain ⟨W1, hW1⟩ : ∃ W1, Hid (W1 = W.alloc (.cells #[.string (bs v0), .string (bs v1), .string (bs v2), .string (bs v3), .int .i64 kk, .bool asks, .int .u32 (a0 : Int), .int .u32 (a1 : Int), .int .u32 (a2 : Int), .string (bs gp), .string (bs gg), .int .i64 ke, .int .i64 kf, .int .i64 kt] 38)) := ⟨_, Lib.hid rfl⟩
  have b1 : Below W.heap.size W W1 := by rw [hW1.out]; exact (Below.refl _ _).alloc (Nat.le_refl _) _
  have hBx : Holds W1 W.heap.size 38 #[.string (bs v0), .string (bs v1), .string (bs v2), .string (bs v3), .int .i64 kk, .bool asks, .int .u32 (a0 : Int), .int .u32 (a1 : Int), .int .u32 (a2 : Int), .string (bs gp), .string (bs gg), .int .i64 ke, .int .i64 kf, .int .i64 kt] := by rw [hW1.out]; exact Holds.new W _ _
  have HL := Lib.hid (xList_any (h.below b1) hn v0 v1 v2 v3 hv asks kk ke kf kt a0 a1 a2 h0 h1 h2 gp gg hp hg mk me mf mt)
  have HH : Hid (∀ (i : Int) (W2 : World), Ta B w0 A ((i, refListL (listL20 [v0, v1, v2, v3] tk asks (askL a0 a1 a2 gp gg) te tf tt)) :: P) (n + 10) W2 → Calls Tryz.prog 34 #[.pointer (some ⟨A, 0, none⟩), .int .i64 i] W2 (TaPost B w0 A ((i, refListL (listL20 [v0, v1, v2, v3] tk asks (askL a0 a1 a2 gp gg) te tf tt)) :: P) (n + 11) W2 (refHashL (refListL (listL20 [v0, v1, v2, v3] tk asks (askL a0 a1 a2 gp gg) te tf tt))))) := fun i W2 t2 => taHash t2 (by omega) (.head _)
  have HB := Lib.hid (Kept.ofBelow b1)
  have HBx := Lib.hid hBx
  clear h h0 h1 h2 hp hg mk me mf mt b1 hBx hv
  generalize refListL (listL20 [v0, v1, v2, v3] tk asks (askL a0 a1 a2 gp gg) te tf tt) = T at *
  generalize bs v0 = S0 at *
  generalize bs v1 = S1 at *
  generalize bs v2 = S2 at *
  generalize bs v3 = S3 at *
  generalize bs gp = XP at *
  generalize bs gg = XG at *
  go_enter Tryz.func14, Tryz.ntmps14
  go_wp2_with (first
    | (go_at_call 12; (with_reducible refine HL.out.mono ?_); rintro e w2 ⟨i, rfl, t2, k2⟩)
    | (go_at_call 34; (with_reducible refine (HH.out _ _ t2).mono ?_); rintro e w3 ⟨j, rfl, t3, k3⟩)
    | (rw [← hW1.out]; refine wpList_load_row rfl 38 _ rfl W.heap.size rfl 38 _ (0, 0) _ HBx.out Tryz.underlying38 rfl sizeXParts ?_))
  go_ret
  exact ⟨j, rfl, t3.mono (Nat.le_refl _) (fun q hq => by
    rcases List.mem_cons.1 hq with rfl | hq
    · exact .head _
    · exact .tail _ (.tail _ hq)), HB.out.trans (k2.trans k3)⟩
end
end Go.Proofs.YtobhpclemmhpoaaGreatDoor

namespace Go.Proofs.YtobhpclemmhpoaaGreatDoor
open Go.RowKit

set_option maxRecDepth 100000 in
theorem qPlain_any (l : List UInt8) (hl : l.length ≤ 1000000) (w : World) : Calls Tryz.prog 67 #[.string (bs l)] w fun e w' => e = .returned (.string (bs (plainL l))) ∧ w' = w := by
  go_enter Tryz.func67, Tryz.ntmps67
  go_wp2_with fail
  go_loopw [0] (fun v wr => ∃ m : List UInt8, m.length ≤ 1000000 ∧ v = .string (bs m) ∧ plainL m = plainL l ∧ wr = w) (fun v _ => strLen v)
  case atStart => exact ⟨l, hl, rfl, rfl, rfl⟩
  case round =>
    obtain ⟨m, hm, rfl, hp, rfl⟩ := hrel
    cases m with
    | nil =>
      have HP : Hid (plainL l = []) := hp.symm
      have HE : Hid (bs ([] : List UInt8) = ⟨#[]⟩) := rfl
      rw [show bs ([] : List UInt8) = ⟨#[]⟩ from rfl]
      clear hp
      go_wp2_with fail
      go_ret
      exact ⟨by rw [HP.out, HE.out]; rfl, rfl⟩
    | cons b r =>
      have hi0 : ∀ W : World, (Instr.index 9 (.string (bs (b :: r))) (.int .i64 0)).run Tryz.prog W = .ok (.int .u8 (b.toNat : Int)) W := fun W => index_bs (b :: r) 0 (by simp) W
      have hd := drop_one b r
      have hsz := bs_size (b :: r)
      simp only [List.length_cons] at hm hsz
      have hrs := bs_size r
      by_cases hb : b = 0
      · have HP : Hid (plainL r = plainL l) := by
          show plainL r = _
          rw [← hp, plainL, if_pos hb]
        have hbn : b.toNat = 0 := by rw [hb]; rfl
        rw [hbn] at hi0
        have hi1 : ∀ W : World, (Instr.index 9 (.string (bs (b :: r))) (.int .i64 0)).run Tryz.prog W = .ok (.int .u8 0) W := hi0
        clear hi0 hp hbn hb
        have hpos : 0 < (bs (b :: r)).size := by omega
        have hle : (bs (b :: r)).size ≤ 1000000 := by omega
        have HR : Hid (∃ T, T = bs r) := ⟨_, rfl⟩
        obtain ⟨T, hT⟩ := HR.out
        rw [← hT] at hd hrs
        rw [hsz] at hd
        have HT := Lib.hid hT
        clear hT
        generalize bs (b :: r) = B at *
        go_wp2_with fail
        go_roundw
        case rel => exact ⟨r, by omega, by rw [HT.out], HP.out, trivial⟩
        case measure => simp only [strLen]; omega
      · have HP : Hid (plainL l = b :: r) := by
          show plainL l = _
          rw [← hp, plainL, if_neg hb]
        have hbn : b.toNat ≠ 0 := fun e => hb (UInt8.toNat_inj.1 e)
        have hq : ((b.toNat : Int) == 0) = false := by
          rw [beq_eq_false_iff_ne]
          omega
        have hpos : 0 < (bs (b :: r)).size := by omega
        have hle : (bs (b :: r)).size ≤ 1000000 := by omega
        clear hp hb hbn hd
        obtain ⟨B, hB⟩ : ∃ B, B = bs (b :: r) := ⟨_, rfl⟩
        rw [← hB] at hi0 hsz hpos hle ⊢
        have HBB := Lib.hid hB
        clear hB
        generalize b.toNat = n at *
        go_wp2_with fail
        go_ret
        exact ⟨by rw [HP.out, ← HBB.out]; rfl, rfl⟩

end Go.Proofs.YtobhpclemmhpoaaGreatDoor

namespace Go.Proofs.YtobhpclemmhpoaaGreatDoor
open Go.RowKit

theorem qB_zero (w : World) : Calls Tryz.prog 68 #[.int .u8 0] w fun e w' => e = .returned (.string (bs [0])) ∧ Below w.heap.size w w' := by
  have hcv := run_string_new w [0] (by simp) #[.int .u8 0] (by simp [byteCells])
  simp only [List.length_cons, List.length_nil] at hcv
  generalize bs [0] = B at *
  go_enter Tryz.func68, Tryz.ntmps68
  go_wp2
  go_ret
  exact ⟨rfl, (Below.refl _ _).alloc (Nat.le_refl _) _⟩

theorem qT_any (l : List UInt8) (hl : l.length ≤ 1000000) (w : World) : Calls Tryz.prog 69 #[.string (bs l)] w fun e w' => e = .returned (.string (bs (cnt l))) ∧ Below w.heap.size w w' := by
  have hsz := bs_size l
  have HE : Hid (bs (pack4 l.length) ++ bs l = bs (cnt l)) := bs_append _ _
  have hp : (bs (pack4 l.length)).size ≤ 4 := by rw [bs_size]; simp [pack4]
  have HU := Lib.hid (fun W => refU32_any l.length (by omega) W)
  rw [← hsz] at HU hp HE
  have hl2 : (bs l).size ≤ 1000000 := by omega
  clear hsz hl
  generalize bs l = B at *
  generalize hS : bs (pack4 B.size) = P at *
  have HS := Lib.hid hS
  clear hS
  go_enter Tryz.func69, Tryz.ntmps69
  go_wp2_with (go_at_call 31; refine (HU.out _).mono ?_; rintro e w' ⟨rfl, hb⟩)
  go_ret
  exact ⟨by rw [← HE.out]; rfl, hb⟩
set_option maxRecDepth 100000 in
theorem qW_any (l : List UInt8) (hl : l.length ≤ 100000) (w : World) : Calls Tryz.prog 32 #[.string (bs l)] w fun e w' => e = .returned (.string (bs (cnt (wholeL l)))) ∧ Below w.heap.size w w' := by
  have HU := Lib.hid (fun W => qPlain_any l (by omega) W)
  have hw := plainL_le l
  have hwh := wholeL_le l
  have HT := Lib.hid (fun W => qT_any (wholeL l) (by omega) W)
  have HW : Hid (wholeL l = if 128 ≤ (hd0 (plainL l)).toNat then 0 :: plainL l else plainL l) := rfl
  generalize wholeL l = wl at *
  generalize plainL l = p at *
  obtain ⟨B, hB⟩ : ∃ B, B = bs l := ⟨_, rfl⟩
  rw [← hB] at HU ⊢
  clear hB
  cases p with
  | nil =>
    have HW2 : Hid (wl = []) := HW.out
    have hT : Hid (∀ W : World, Calls Tryz.prog 69 #[.string ⟨#[]⟩] W fun e w' => e = .returned (.string (bs (cnt wl))) ∧ Below W.heap.size W w') := by
      have := HT.out
      rw [HW2.out] at this ⊢
      exact this
    have HU2 : Hid (∀ W : World, Calls Tryz.prog 67 #[.string B] W fun e w' => e = .returned (.string ⟨#[]⟩) ∧ w' = W) := HU.out
    clear HU HT HW HW2 hw
    generalize cnt wl = cl at *
    go_enter Tryz.func32, Tryz.ntmps32
    go_wp2_with (first
      | (go_at_call 67; refine (HU2.out _).mono ?_; rintro e w' ⟨rfl, rfl⟩)
      | (go_at_call 69; refine (hT.out _).mono ?_; rintro e w' ⟨rfl, hb⟩))
    go_ret
    exact ⟨rfl, hb⟩
  | cons b r =>
    have hi0 : ∀ W : World, (Instr.index 9 (.string (bs (b :: r))) (.int .i64 0)).run Tryz.prog W = .ok (.int .u8 (b.toNat : Int)) W := fun W => index_bs (b :: r) 0 (by simp) W
    have hsz := bs_size (b :: r)
    simp only [List.length_cons] at hsz
    have hpos : 0 < (bs (b :: r)).size := by omega
    have h2 : (bs (b :: r)).size ≤ 1000000 := by rw [bs_size]; omega
    by_cases hb : 128 ≤ b.toNat
    · have HW2 : wl = 0 :: b :: r := by
        have := HW.out
        rwa [if_pos (by exact hb)] at this
      have hq : ((b.toNat : Int) > 127) := by omega
      have HA : Hid (bs [0] ++ bs (b :: r) = bs (0 :: b :: r)) := bs_append _ _
      rw [HW2] at HT ⊢
      have h1 : (bs [0]).size ≤ 1 := by rw [bs_size]; simp
      rw [← HA.out] at HT
      generalize cnt (0 :: b :: r) = cl at *
      clear HW HW2 hsz hb HA
      generalize bs (b :: r) = C at *
      obtain ⟨Z, hZ⟩ : ∃ Z, Z = bs [0] := ⟨_, rfl⟩
      have hz := fun W => qB_zero W
      rw [← hZ] at HT h1
      have HZ : Hid (∀ W : World, Calls Tryz.prog 68 #[.int .u8 0] W fun e w' => e = .returned (.string Z) ∧ Below W.heap.size W w') := by rw [hZ]; exact hz
      clear hZ hz
      generalize b.toNat = n at *
      go_enter Tryz.func32, Tryz.ntmps32
      go_wp2_with (first
        | (go_at_call 67; refine (HU.out _).mono ?_; rintro e w1 ⟨rfl, rfl⟩)
        | (go_at_call 68; refine (HZ.out _).mono ?_; rintro e w2 ⟨rfl, hb2⟩)
        | (go_at_call 69; refine (HT.out _).mono ?_; rintro e w3 ⟨rfl, hb3⟩))
      go_ret
      exact ⟨rfl, hb2.trans (hb3.mono hb2.size)⟩
    · have HW2 : wl = b :: r := by
        have := HW.out
        rwa [if_neg (by exact hb)] at this
      have hq : decide ((b.toNat : Int) > 127) = false := decide_eq_false (by omega)
      rw [HW2] at HT ⊢
      generalize cnt (b :: r) = cl at *
      clear HW HW2 hsz hb
      generalize bs (b :: r) = C at *
      generalize b.toNat = n at *
      go_enter Tryz.func32, Tryz.ntmps32
      go_wp2_with (first
        | (go_at_call 67; refine (HU.out _).mono ?_; rintro e w1 ⟨rfl, rfl⟩)
        | (go_at_call 69; refine (HT.out _).mono ?_; rintro e w3 ⟨rfl, hb3⟩))
      go_ret
      exact ⟨rfl, hb3⟩

end Go.Proofs.YtobhpclemmhpoaaGreatDoor
