/- Layer 11: what was packed is unpacked; the example; the laws FramePacks and FrameNeeds. -/
import Derived.Test.YtplplhaofedjcaaFr6
namespace Go.Proofs.Ytplplhaofedjcaa
open Go.RowKit

theorem cnt_take (b : List UInt8) : (cnt b).take 4 = pack4 b.length := rfl
theorem cnt_drop (b : List UInt8) : (cnt b).drop 4 = b := rfl
theorem cnt_length (b : List UInt8) : (cnt b).length = b.length + 4 := by simp [cnt, pack4]
theorem frHd_cnt (b : List UInt8) (h : b.length < 16777216) : frHd (cnt b) = 0 := by
  show (UInt8.ofNat (b.length / 16777216)).toNat = 0
  rw [Nat.div_eq_of_lt h]; rfl
theorem frNeedP_cnt (b : List UInt8) (h0 : 0 < b.length) (h : b.length ≤ 262144) : frNeedP (cnt b) = (4 + b.length, 0) := by
  unfold frNeedP
  rw [frHd_cnt b (by omega), cnt_take, num4_pack _ (by omega), cnt_length, if_neg (by omega), if_neg (by omega), if_neg (by omega), if_neg (by omega)]
theorem frBodyP_cnt (b : List UInt8) (h0 : 0 < b.length) (h : b.length ≤ 262144) : frBodyP (cnt b) = (b, 0) := by
  unfold frBodyP
  rw [frNeedP_cnt b h0 h, cnt_length, if_neg (by simp), if_neg (by simp only; omega), if_neg (by simp only; omega), cnt_drop]
theorem frBuf_length (l : List UInt8) : (frBuf l).length = 1 + l.length + frPadP l.length := by unfold frBuf; simp; omega
theorem frHd_buf (l : List UInt8) : frHd (frBuf l) = frPadP l.length := by
  obtain ⟨_, h, _⟩ := frPadP_facts l.length
  show (UInt8.ofNat _).toNat = _
  simp; omega
theorem frUnpackP_buf (l : List UInt8) (h0 : 0 < l.length) (h : l.length ≤ 32768) : frUnpackP (cnt (frBuf l)) = (l, 0) := by
  obtain ⟨h1, h2, h3⟩ := frPadP_facts l.length
  have hl := frBuf_length l
  unfold frUnpackP
  rw [frBodyP_cnt _ (by omega) (by omega), if_neg (by simp)]
  have hb : frBad (cnt (frBuf l)) (frBuf l) = false := by
    unfold frBad
    rw [cnt_length, frHd_buf, hl, decide_eq_false (by omega)]
  rw [hb, frHd_buf, hl, if_neg (by simp), if_neg (by omega)]
  have e : (frBuf l).drop 1 = l ++ List.replicate (frPadP l.length) 0 := rfl
  rw [e, show 1 + l.length + frPadP l.length - 1 - frPadP l.length = l.length by omega, List.take_left' rfl]

theorem frExample : cnt (frBuf [21]) = [0, 0, 0, 12, 10, 21, 0, 0, 0, 0, 0, 0, 0, 0, 0, 0] := by decide
theorem frToList (l : List UInt8) : (bs l).toList = l := by
  rw [ByteArray.toList_eq]
  simp [bs]
set_option maxRecDepth 100000 in
theorem awake11_any (w : World) : Calls Try.prog 7 #[] w fun e w' => e = .returned (.bool true) ∧ Below w.heap.size w w' := by
  have H : Hid (∀ W : World, Calls Try.prog 8 #[.string ⟨#[21]⟩] W fun e w' => e = .returned (.tuple #[.string (bs (cnt (frBuf [21]))), .int .i64 0]) ∧ Below W.heap.size W w') := fun W => frPack_any [21] (by decide) W
  rw [frExample] at H
  have hq : ((bs [0, 0, 0, 12, 10, 21, 0, 0, 0, 0, 0, 0, 0, 0, 0, 0]).toList == [0, 0, 0, 12, 10, 21, 0, 0, 0, 0, 0, 0, 0, 0, 0, 0]) = true := by rw [frToList]; rfl
  generalize bs [0, 0, 0, 12, 10, 21, 0, 0, 0, 0, 0, 0, 0, 0, 0, 0] = V at *
  go_enter Try.func7, Try.ntmps7
  go_wp2_with (go_at_call 8; refine (H.out _).mono ?_; rintro e w1 ⟨rfl, b1⟩)
  go_ret
  exact ⟨rfl, b1⟩

set_option maxHeartbeats 1000000 in
set_option maxRecDepth 100000 in
theorem FramePacks_small (l : List UInt8) (hl : l.length ≤ 2000) (w : World) : Calls Try.prog 3 #[.string (bs l)] w fun e w' => e = .returned (.bool true) ∧ Below w.heap.size w w' := by
  have hsz := bs_size l
  have q : decide ((l.length : Int) > 2000) = false := decide_eq_false (by omega)
  have HP := Lib.hid (fun W => frPack_any l (by omega) W)
  have HU := Lib.hid (fun W => frUnit_any l (by omega) W)
  have HA := Lib.hid (fun W => awake11_any W)
  have hZ : bs ([] : List UInt8) = ⟨#[]⟩ := rfl
  by_cases h0 : l = []
  · have q0 := frEmpty_yes (s := l) (by rw [h0]; rfl)
    rw [show frPackP l = ([], 4) from if_pos h0, hZ] at HP
    rw [show frUnitP l = ([], 4) from if_pos h0, hZ] at HU
    clear h0 hZ
    generalize bs l = S at *
    go_enter Try.func3, Try.ntmps3
    go_wp2_with (first
      | (go_at_call 8; refine (HP.out _).mono ?_; rintro e w1 ⟨rfl, b1⟩)
      | (go_at_call 9; refine (HU.out _).mono ?_; rintro e w2 ⟨rfl, b2⟩)
      | (go_at_call 7; refine (HA.out _).mono ?_; rintro e w3 ⟨rfl, b3⟩))
    go_ret
    exact ⟨rfl, (b1.trans (b2.mono b1.size)).trans (b3.mono (Nat.le_trans b1.size b2.size))⟩
  · have hpos : 0 < l.length := List.length_pos_iff.2 h0
    have q0 := frEmpty_no (s := l) (by omega)
    rw [show frPackP l = (cnt (frBuf l), 0) from (if_neg h0).trans (if_neg (by omega))] at HP
    rw [show frUnitP l = (cnt l, 0) from (if_neg h0).trans (if_neg (by omega))] at HU
    obtain ⟨p1, p2, p3⟩ := frPadP_facts l.length
    have hbl := frBuf_length l
    have hC := cnt_length (frBuf l)
    have hD := cnt_length l
    have HB := Lib.hid (fun W => frUnpack_any (cnt (frBuf l)) (by omega) W)
    rw [frUnpackP_buf l hpos (by omega)] at HB
    have HY := Lib.hid (fun W => frBody_any (cnt l) (by omega) W)
    rw [frBodyP_cnt l hpos (by omega)] at HY
    have HN := Lib.hid (fun W => frNeed_any (cnt (frBuf l)) (by omega) W)
    rw [frNeedP_cnt (frBuf l) (by omega) (by omega)] at HN
    have HRP := Lib.hid (fun W => rfPack_any l (by omega) W)
    have HRU := Lib.hid (fun W => rfUnit_any l (by omega) W)
    have hcz := bs_size (cnt (frBuf l))
    rw [hC] at hcz
    obtain ⟨n, hn⟩ : ∃ n, n = (frBuf l).length := ⟨_, rfl⟩
    have hn1 : n ≤ 3000 := by omega
    rw [← hn] at hcz HN
    have q8 : ((n + 4 : Nat) : Int) % 8 = 0 := by omega
    have e4 : (((4 + n : Nat) : Int)) = ((n + 4 : Nat) : Int) := by omega
    rw [e4] at HN
    have q8b : (((n + 4 : Nat) : Int) % 8 == 0) = true := by rw [beq_iff_eq]; exact q8
    obtain ⟨m, hm⟩ : ∃ m, m = n + 4 := ⟨_, rfl⟩
    rw [← hm] at hcz HN q8b
    have hm1 : m ≤ 3004 := by omega
    clear hZ h0 hbl hC hD hn e4 q8 hm p3
    generalize bs (cnt (frBuf l)) = C at *
    generalize bs (cnt l) = D at *
    generalize bs l = S at *
    go_enter Try.func3, Try.ntmps3
    go_wp2_with (first
      | (go_at_call 8; refine (HP.out _).mono ?_; rintro e w1 ⟨rfl, b1⟩)
      | (go_at_call 9; refine (HU.out _).mono ?_; rintro e w2 ⟨rfl, b2⟩)
      | (go_at_call 10; refine (HB.out _).mono ?_; rintro e w3 ⟨rfl, b3⟩)
      | (go_at_call 11; refine (HY.out _).mono ?_; rintro e w4 ⟨rfl, b4⟩)
      | (go_at_call 12; refine (HN.out _).mono ?_; rintro e w5 ⟨rfl, b5⟩)
      | (go_at_call 7; refine (HA.out _).mono ?_; rintro e w6 ⟨rfl, b6⟩)
      | (go_at_call 13; refine (HRP.out _).mono ?_; rintro e w7 ⟨rfl, b7⟩)
      | (go_at_call 14; refine (HRU.out _).mono ?_; rintro e w8 ⟨rfl, b8⟩))
    go_ret
    have z1 := b1.size; have z2 := b2.size; have z3 := b3.size; have z4 := b4.size; have z5 := b5.size; have z6 := b6.size; have z7 := b7.size
    exact ⟨rfl, ((((((b1.trans (b2.mono (by omega))).trans (b3.mono (by omega))).trans (b4.mono (by omega))).trans (b5.mono (by omega))).trans (b6.mono (by omega))).trans (b7.mono (by omega))).trans (b8.mono (by omega))⟩

set_option maxHeartbeats 1000000 in
set_option maxRecDepth 100000 in
theorem FrameNeeds_small (l : List UInt8) (hl : l.length ≤ 2000) (w : World) : Calls Try.prog 4 #[.string (bs l)] w fun e w' => e = .returned (.bool true) ∧ Below w.heap.size w w' := by
  have hsz := bs_size l
  have q : decide ((l.length : Int) > 2000) = false := decide_eq_false (by omega)
  have HN := Lib.hid (fun W => frNeed_any l (by omega) W)
  have HM := Lib.hid (fun W => rfNeed_any l (by omega) W)
  have HB := Lib.hid (fun W => frBody_any l (by omega) W)
  have HC := Lib.hid (fun W => rfBody_any l (by omega) W)
  have HU := Lib.hid (fun W => frUnpack_any l (by omega) W)
  have HV := Lib.hid (fun W => rfUnpack_any l (by omega) W)
  have HA := Lib.hid (fun W => awake11_any W)
  generalize bs (frBodyP l).1 = B1 at *
  generalize bs (frUnpackP l).1 = U1 at *
  generalize (frBodyP l).2 = B2 at *
  generalize (frUnpackP l).2 = U2 at *
  generalize (frNeedP l).1 = N1 at *
  generalize (frNeedP l).2 = N2 at *
  generalize bs l = S at *
  go_enter Try.func4, Try.ntmps4
  go_wp2_with (first
    | (go_at_call 12; refine (HN.out _).mono ?_; rintro e w1 ⟨rfl, b1⟩)
    | (go_at_call 15; refine (HM.out _).mono ?_; rintro e w2 ⟨rfl, b2⟩)
    | (go_at_call 11; refine (HB.out _).mono ?_; rintro e w3 ⟨rfl, b3⟩)
    | (go_at_call 16; refine (HC.out _).mono ?_; rintro e w4 ⟨rfl, b4⟩)
    | (go_at_call 10; refine (HU.out _).mono ?_; rintro e w5 ⟨rfl, b5⟩)
    | (go_at_call 17; refine (HV.out _).mono ?_; rintro e w6 ⟨rfl, b6⟩)
    | (go_at_call 7; refine (HA.out _).mono ?_; rintro e w7 ⟨rfl, b7⟩))
  go_ret
  have z1 := b1.size; have z2 := b2.size; have z3 := b3.size; have z4 := b4.size; have z5 := b5.size; have z6 := b6.size
  exact ⟨rfl, (((((b1.trans (b2.mono (by omega))).trans (b3.mono (by omega))).trans (b4.mono (by omega))).trans (b5.mono (by omega))).trans (b6.mono (by omega))).trans (b7.mono (by omega))⟩
end Go.Proofs.Ytplplhaofedjcaa
