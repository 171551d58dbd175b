/- The document's values of messages: Value; both sides say the same. -/
import Derived.Test.YtkdbmfgbokbnfaaDoorMq3
namespace Go.Proofs.YtkdbmfgbokbnfaaDoor
open Go.RowKit

def lettersL : List UInt8 := [98, 115, 117, 109, 110, 99, 116, 101]
def isLetter (k : UInt8) : Bool := lettersL.any (fun j => decide (k = j))
theorem isLetter_uses (k : UInt8) : isLetter k = false → usesP (k.toNat : Int) = 0 := by
  intro h
  unfold isLetter lettersL at h
  simp only [List.any_cons, List.any_nil, Bool.or_false, Bool.or_eq_false_iff, decide_eq_false_iff_not] at h
  obtain ⟨h1, h2, h3, h4, h5, h6, h7, h8⟩ := h
  have e : ∀ j : Nat, j < 256 → k ≠ UInt8.ofNat j → k.toNat ≠ j := fun j hj hk hc => hk (by apply UInt8.toNat_inj.1; rw [hc, UInt8.toNat_ofNat']; omega)
  have a1 := e 98 (by omega) h1
  have a2 := e 115 (by omega) h2
  have a3 := e 117 (by omega) h3
  have a4 := e 109 (by omega) h4
  have a5 := e 110 (by omega) h5
  have a6 := e 99 (by omega) h6
  have a7 := e 116 (by omega) h7
  have a8 := e 101 (by omega) h8
  unfold usesP
  rw [if_neg (by omega), if_neg (by omega), if_neg (by omega)]
theorem isLetter_some (k : UInt8) (h : isLetter k = true) : k = 98 ∨ k = 115 ∨ k = 117 ∨ k = 109 ∨ k = 110 ∨ k = 99 ∨ k = 116 ∨ k = 101 := by
  unfold isLetter lettersL at h
  simpa using h
theorem plain_only {x : FieldR} (h : isLetter x.kind = true) : plainQ x = onlyP x.kind.toNat x := by
  obtain ⟨k, n, s, l⟩ := x
  rcases isLetter_some k h with rfl | rfl | rfl | rfl | rfl | rfl | rfl | rfl <;> simp [plainQ, onlyP, usesP]
theorem put_write {x : FieldR} (h : isLetter x.kind = true) : putQ x = writeP x.kind.toNat x := by
  have hp := plain_only h
  obtain ⟨k, n, s, l⟩ := x
  simp only at h hp
  generalize ho : onlyP (k.toNat : Int) ⟨k, n, s, l⟩ = o at hp
  cases o with
  | false =>
    unfold putQ writeP
    rw [if_pos hp, if_pos (.inr ho)]
  | true =>
    have e1 : putQ ⟨k, n, s, l⟩ = _ := if_neg (by rw [hp]; simp)
    have e2 : writeP (k.toNat : Int) ⟨k, n, s, l⟩ = _ := if_neg (by rw [ho]; simp)
    show putQ ⟨k, n, s, l⟩ = writeP (k.toNat : Int) ⟨k, n, s, l⟩
    rw [e1, e2]
    clear e1 e2 hp ho
    rcases isLetter_some k h with rfl | rfl | rfl | rfl | rfl | rfl | rfl | rfl
    · show (if n < 0 ∨ 1 < n then (([], 5) : Wrote) else (boolL (decide (n = 1)), 0)) = wrNum 98 n
      unfold wrNum
      by_cases h0 : n < 0 ∨ 1 < n
      · rw [if_pos h0, if_neg (by omega), if_neg (by omega)]
      · rw [if_neg h0, if_pos (by omega)]
    · rfl
    · show (if n < 0 ∨ 4294967295 < n then (([], 5) : Wrote) else (pack4 n.toNat, 0)) = wrNum 117 n
      unfold wrNum
      by_cases h0 : n < 0 ∨ 4294967295 < n
      · rw [if_pos h0, if_neg (by omega), if_neg (by omega)]
      · rw [if_neg h0, if_neg (by omega), if_pos (by omega)]
    · show (if startsZ s = true then (([], 3) : Wrote) else (cnt (wholeL s), 0)) = wrBytes 109 s
      unfold wrBytes
      cases hz : startsZ s
      · rw [if_neg (by simp), if_neg (by omega), if_pos ⟨rfl, rfl⟩]
      · rw [if_pos rfl, if_neg (by omega), if_neg (by simp), if_neg (by omega)]
    · rfl
    · show (if s.length = 16 then ((s, 0) : Wrote) else ([], 3)) = wrBytes 99 s
      unfold wrBytes
      by_cases h0 : s.length = 16
      · rw [if_pos h0, if_neg (by omega), if_neg (by omega), if_pos ⟨rfl, h0⟩]
      · rw [if_neg h0, if_neg (by omega), if_neg (by omega), if_neg (by omega)]
    · rfl
    · rfl
theorem wrote_none (k : Int) (x : FieldR) (h : (writeP k x).2 ≠ 0) : (writeP k x).1 = [] := by
  unfold writeP wrNum wrBytes wrList extsP at *
  repeat' split
  all_goals first | rfl | (exfalso; simp_all)
def valueQ (x : FieldR) : List UInt8 × Bool := if isLetter x.kind = true ∧ (putQ x).2 = 0 then ((putQ x).1, true) else ([], false)
theorem value_same (x : FieldR) : valueQ x = valueP x := by
  unfold valueQ valueP
  by_cases hl : isLetter x.kind = true
  · rw [put_write hl]
    by_cases h0 : (writeP x.kind.toNat x).2 = 0
    · rw [if_pos ⟨hl, h0⟩, h0]; rfl
    · rw [if_neg (fun h => h0 h.2), wrote_none _ _ h0, decide_eq_false h0]
  · have hu := isLetter_uses x.kind (by simpa using hl)
    have hw : writeP x.kind.toNat x = ([], 3) := by
      unfold writeP
      rw [hu]
      split <;> simp
    rw [if_neg (fun h => hl h.1), hw]
    rfl

set_option maxHeartbeats 1000000 in
set_option maxRecDepth 100000 in
theorem qvalue_any {x : FieldR} {w : World} {v : Value} (hv : TextsAt w v (x.l.map bs)) (ho : FieldOk x) :
    Calls Tryd.prog 8 #[fieldV x v] w fun e w' => e = .returned (.tuple #[.string (bs (valueQ x).1), .bool (valueQ x).2]) ∧ Below w.heap.size w w' := by
  have HW := Lib.hid (fun (W : World) (hb : Below w.heap.size w W) => put_any (hv.below hb) ho)
  unfold valueQ
  obtain ⟨ao, cap, rfl, _⟩ := hv
  obtain ⟨kd, xn, xs, xl⟩ := x
  unfold wroteV fieldV at *
  simp only at *
  have hl8 : (bs lettersL).size = 8 := rfl
  have HIx : Hid (∀ (k : Nat) (hk : k < 8), ∃ c : UInt8, lettersL[k]? = some c ∧ ∀ W : World, (Instr.index 9 (.string (bs lettersL)) (.int .i64 (k : Int))).run Tryd.prog W = .ok (.int .u8 (c.toNat : Int)) W) := fun k hk =>
    ⟨lettersL[k]'hk, List.getElem?_eq_getElem hk, fun W => index_bs lettersL k hk W⟩
  have HL : Hid (isLetter kd = (lettersL.take 8).any (fun j => decide (kd = j))) := rfl
  have HF := Lib.hid ((Below.refl w.heap.size w).alloc (Nat.le_refl _) (.cells #[.int .u8 (kd.toNat : Int), .int .i64 xn, .string (bs xs), .slice ao (xl.map bs).length cap] 28))
  have HH := Lib.hid (Holds.new w 28 #[.int .u8 (kd.toNat : Int), .int .i64 xn, .string (bs xs), .slice ao (xl.map bs).length cap])
  generalize putQ ⟨kd, xn, xs, xl⟩ = p at *
  obtain ⟨s, n⟩ := p
  simp only at *
  have hq : ((n : Int) != 0) = !decide (n = 0) := by
    by_cases h : n = 0
    · simp [h]
    · rw [decide_eq_false h, bne_iff_ne.2 (by omega)]; rfl
  clear ho
  generalize bs xs = S2 at *
  generalize (xl.map bs).length = m at *
  rw [HL.out]
  clear HL
  obtain ⟨vq, hvq⟩ : ∃ vq : List UInt8 × Bool, vq = if (lettersL.take 8).any (fun j => decide (kd = j)) = true ∧ n = 0 then (s, true) else ([], false) := ⟨_, rfl⟩
  rw [← hvq]
  have HVQ := Lib.hid hvq
  clear hvq
  have HLit : Hid (bs lettersL = ⟨#[98, 115, 117, 109, 110, 99, 116, 101]⟩) := rfl
  rw [HLit.out] at hl8 HIx
  go_enter Tryd.func8, Tryd.ntmps8
  go_wp2_with fail
  obtain ⟨WA, hWA⟩ : ∃ WA, WA = w.alloc (.cells #[.int .u8 (kd.toNat : Int), .int .i64 xn, .string S2, .slice ao m cap] 28) := ⟨_, rfl⟩
  rw [← hWA] at HF HH ⊢
  clear hWA
  have HZ := Lib.hid HH.out.lt
  have HK : Hid (∀ k (c : UInt8), lettersL[k]? = some c → (lettersL.take (k + 1)).any (fun j => decide (kd = j)) = ((lettersL.take k).any (fun j => decide (kd = j)) || decide (kd = c))) := fun k c hc => by
    obtain ⟨hk, rfl⟩ := List.getElem?_eq_some_iff.1 hc
    rw [List.take_succ_eq_append_getElem hk, List.any_append]
    simp
  have HE : Hid (∀ c : UInt8, ((kd.toNat : Int) == (c.toNat : Int)) = decide (kd = c)) := fun c => by
    by_cases h : kd = c
    · simp [h]
    · rw [decide_eq_false h, beq_eq_false_iff_ne]
      intro e
      exact h (UInt8.toNat_inj.1 (by omega))
  go_loopw [5, 6] (fun r i wr => ∃ k : Nat, k ≤ 8 ∧ i = .int .i64 (k : Int) ∧ r = .bool ((lettersL.take k).any (fun j => decide (kd = j))) ∧ Below WA.heap.size WA wr) (fun _ i _ => 8 - (intOf i).toNat)
  case atStart => exact ⟨0, Nat.zero_le _, rfl, by simp, Below.refl _ _⟩
  case round =>
    obtain ⟨k, hk, rfl, rfl, hbel⟩ := hrel
    by_cases hlt : k < 8
    · obtain ⟨c, hc, hix⟩ := HIx.out k hlt
      have hK := HK.out k c hc
      have hE := HE.out c
      have c0 : wr.cell? ⟨w.heap.size, 0, none⟩ = some (.int .u8 (kd.toNat : Int)) := (hbel.cell (p := ⟨w.heap.size, 0, none⟩) HZ.out).trans (HH.out.cell 0)
      have HBe := Lib.hid hbel
      clear hc hbel
      generalize (lettersL.take k).any (fun j => decide (kd = j)) = r at *
      generalize hr2 : (lettersL.take (k + 1)).any (fun j => decide (kd = j)) = r2 at *
      have HR2 := Lib.hid hr2
      clear hr2
      generalize decide (kd = c) = d at *
      generalize (c.toNat : Int) = cz at *
      cases r
      all_goals
        go_wp2_with fail
        go_quiet (fail)
        have hb := bel_drewN HBe.out nq
        go_wp2_with fail
        go_roundw
        case rel => exact ⟨k + 1, by omega, by go_num, by rw [HR2.out, hK]; simp, hb⟩
        case measure => simp [intOf]; omega
    · have hk8 : k = 8 := by omega
      subst hk8
      have HHb : Hid (∀ W, Below WA.heap.size WA W → Below w.heap.size w W) := fun W hb => HF.out.trans (hb.mono HF.out.size)
      have hH := HH.out.moves (Moves.ofBelow (S := nobody) hbel) (fun h => h)
      have c0 := hH.cell 0
      have c1 := hH.cell 1
      have c2 := hH.cell 2
      have c3 := hH.cell 3
      have hbw := HHb.out _ hbel
      clear hlt
      generalize hr : (lettersL.take 8).any (fun j => decide (kd = j)) = r at *
      have HR := Lib.hid hr
      clear hr
      generalize hd : decide (n = 0) = d at *
      have HD := Lib.hid hd
      clear hd hbel
      cases r
      · have e : vq = ([], false) := by rw [HVQ.out]; exact if_neg fun h => absurd h.1 (by simp)
        subst e
        go_wp2_with (go_at_call 14; with_reducible refine (HW.out _ hbw).mono ?_; rintro e w1 ⟨rfl, b1⟩; have hb1 := hbw.trans (b1.mono hbw.size))
        all_goals
          go_ret2
          exact ⟨rfl, hb1⟩
      · by_cases hn : n = 0
        · have e : vq = (s, true) := by rw [HVQ.out]; exact if_pos ⟨rfl, hn⟩
          subst e
          subst hn
          cases d
          · exact absurd (of_decide_eq_false HD.out) (by simp)
          go_wp2_with (go_at_call 14; with_reducible refine (HW.out _ hbw).mono ?_; rintro e w1 ⟨rfl, b1⟩; have hb1 := hbw.trans (b1.mono hbw.size))
          go_ret2
          exact ⟨rfl, hb1⟩
        · have e : vq = ([], false) := by rw [HVQ.out]; exact if_neg fun h => hn h.2
          subst e
          cases d
          · go_wp2_with (go_at_call 14; with_reducible refine (HW.out _ hbw).mono ?_; rintro e w1 ⟨rfl, b1⟩; have hb1 := hbw.trans (b1.mono hbw.size))
            go_ret2
            exact ⟨rfl, hb1⟩
          · exact absurd (of_decide_eq_true HD.out) hn
end Go.Proofs.YtkdbmfgbokbnfaaDoor
