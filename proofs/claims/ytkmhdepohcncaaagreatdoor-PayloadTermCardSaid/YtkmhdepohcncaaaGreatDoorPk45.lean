/- Part 45 of what the statement wants. -/
import Derived.Test.YtkmhdepohcncaaaGreatDoorPk43
import Derived.Test.YtkmhdepohcncaaaGreatDoorPk44
namespace Go.Proofs.YtkmhdepohcncaaaGreatDoor
open Go.RowKit

def valueQ (x : FieldR) : List UInt8 × Bool := if isLetter x.kind = true ∧ (putQ x).2 = 0 then ((putQ x).1, true) else ([], false)
theorem value_same (x : FieldR) : valueQ x = valueP x := by
  unfold valueQ valueP
  by_cases hl : isLetter x.kind = true
  · rw [put_write hl]
    by_cases h0 : (writeP x.kind.toNat x).2 = 0
    · rw [if_pos ⟨hl, h0⟩, h0]; rfl
    · rw [if_neg (fun h => h0 h.2), wrote_none _ _ h0, decide_eq_false h0]
  · have hu := isLetter_uses x.kind (by simpa using hl)
    have hw : writeP x.kind.toNat x = ([], 3) := by
      unfold writeP
      rw [hu]
      split <;> simp
    rw [if_neg (fun h => hl h.1), hw]
    rfl

set_option maxHeartbeats 1000000 in
set_option maxRecDepth 100000 in
theorem qvalue_any {x : FieldR} {w : World} {v : Value} (hv : TextsAt w v (x.l.map bs)) (ho : FieldOk x) :
    Calls Tryz.prog 70 #[fieldV x v] w fun e w' => e = .returned (.tuple #[.string (bs (valueQ x).1), .bool (valueQ x).2]) ∧ Below w.heap.size w w' := by
  have HW := Lib.hid (fun (W : World) (hb : Below w.heap.size w W) => put_any (hv.below hb) ho)
  unfold valueQ
  obtain ⟨ao, cap, rfl, _⟩ := hv
  obtain ⟨kd, xn, xs, xl⟩ := x
  unfold wroteV fieldV at *
  simp only at *
  have hl8 : (bs lettersL).size = 8 := rfl
  have HIx : Hid (∀ (k : Nat) (hk : k < 8), ∃ c : UInt8, lettersL[k]? = some c ∧ ∀ W : World, (Instr.index 9 (.string (bs lettersL)) (.int .i64 (k : Int))).run Tryz.prog W = .ok (.int .u8 (c.toNat : Int)) W) := fun k hk =>
    ⟨lettersL[k]'hk, List.getElem?_eq_getElem hk, fun W => index_bs lettersL k hk W⟩
  have HL : Hid (isLetter kd = (lettersL.take 8).any (fun j => decide (kd = j))) := rfl
  have HF := Lib.hid ((Below.refl w.heap.size w).alloc (Nat.le_refl _) (.cells #[.int .u8 (kd.toNat : Int), .int .i64 xn, .string (bs xs), .slice ao (xl.map bs).length cap] 68))
  have HH := Lib.hid (Holds.new w 68 #[.int .u8 (kd.toNat : Int), .int .i64 xn, .string (bs xs), .slice ao (xl.map bs).length cap])
  generalize putQ ⟨kd, xn, xs, xl⟩ = p at *
  obtain ⟨s, n⟩ := p
  simp only at *
  have hq : ((n : Int) != 0) = !decide (n = 0) := by
    by_cases h : n = 0
    · simp [h]
    · rw [decide_eq_false h, bne_iff_ne.2 (by omega)]; rfl
  clear ho
  generalize bs xs = S2 at *
  generalize (xl.map bs).length = m at *
  rw [HL.out]
  clear HL
  obtain ⟨vq, hvq⟩ : ∃ vq : List UInt8 × Bool, vq = if (lettersL.take 8).any (fun j => decide (kd = j)) = true ∧ n = 0 then (s, true) else ([], false) := ⟨_, rfl⟩
  rw [← hvq]
  have HVQ := Lib.hid hvq
  clear hvq
  have HLit : Hid (bs lettersL = ⟨#[98, 115, 117, 109, 110, 99, 116, 101]⟩) := rfl
  rw [HLit.out] at hl8 HIx
  go_enter Tryz.func70, Tryz.ntmps70
  go_wp2_with fail
  obtain ⟨WA, hWA⟩ : ∃ WA, WA = w.alloc (.cells #[.int .u8 (kd.toNat : Int), .int .i64 xn, .string S2, .slice ao m cap] 68) := ⟨_, rfl⟩
  rw [← hWA] at HF HH ⊢
  clear hWA
  have HZ := Lib.hid HH.out.lt
  have HK : Hid (∀ k (c : UInt8), lettersL[k]? = some c → (lettersL.take (k + 1)).any (fun j => decide (kd = j)) = ((lettersL.take k).any (fun j => decide (kd = j)) || decide (kd = c))) := fun k c hc => by
    obtain ⟨hk, rfl⟩ := List.getElem?_eq_some_iff.1 hc
    rw [List.take_succ_eq_append_getElem hk, List.any_append]
    simp
  have HE : Hid (∀ c : UInt8, ((kd.toNat : Int) == (c.toNat : Int)) = decide (kd = c)) := fun c => by
    by_cases h : kd = c
    · simp [h]
    · rw [decide_eq_false h, beq_eq_false_iff_ne]
      intro e
      exact h (UInt8.toNat_inj.1 (by omega))
  go_loopw [5, 6] (fun r i wr => ∃ k : Nat, k ≤ 8 ∧ i = .int .i64 (k : Int) ∧ r = .bool ((lettersL.take k).any (fun j => decide (kd = j))) ∧ Below WA.heap.size WA wr) (fun _ i _ => 8 - (intOf i).toNat)
  case atStart => exact ⟨0, Nat.zero_le _, rfl, by simp, Below.refl _ _⟩
  case round =>
    obtain ⟨k, hk, rfl, rfl, hbel⟩ := hrel
    by_cases hlt : k < 8
    · obtain ⟨c, hc, hix⟩ := HIx.out k hlt
      have hK := HK.out k c hc
      have hE := HE.out c
      have c0 : wr.cell? ⟨w.heap.size, 0, none⟩ = some (.int .u8 (kd.toNat : Int)) := (hbel.cell (p := ⟨w.heap.size, 0, none⟩) HZ.out).trans (HH.out.cell 0)
      have HBe := Lib.hid hbel
      clear hc hbel
      generalize (lettersL.take k).any (fun j => decide (kd = j)) = r at *
      generalize hr2 : (lettersL.take (k + 1)).any (fun j => decide (kd = j)) = r2 at *
      have HR2 := Lib.hid hr2
      clear hr2
      generalize decide (kd = c) = d at *
      generalize (c.toNat : Int) = cz at *
      cases r
      all_goals
        go_wp2_with fail
        go_quiet (fail)
        have hb := bel_drewN HBe.out nq
        go_wp2_with fail
        go_roundw
        case rel => exact ⟨k + 1, by omega, by go_num, by rw [HR2.out, hK]; simp, hb⟩
        case measure => simp [intOf]; omega
    · have hk8 : k = 8 := by omega
      subst hk8
      have HHb : Hid (∀ W, Below WA.heap.size WA W → Below w.heap.size w W) := fun W hb => HF.out.trans (hb.mono HF.out.size)
      have hH := HH.out.moves (Moves.ofBelow (S := nobody) hbel) (fun h => h)
      have c0 := hH.cell 0
      have c1 := hH.cell 1
      have c2 := hH.cell 2
      have c3 := hH.cell 3
      have hbw := HHb.out _ hbel
      clear hlt
      generalize hr : (lettersL.take 8).any (fun j => decide (kd = j)) = r at *
      have HR := Lib.hid hr
      clear hr
      generalize hd : decide (n = 0) = d at *
      have HD := Lib.hid hd
      clear hd hbel
      cases r
      · have e : vq = ([], false) := by rw [HVQ.out]; exact if_neg fun h => absurd h.1 (by simp)
        subst e
        go_wp2_with (go_at_call 128; with_reducible refine (HW.out _ hbw).mono ?_; rintro e w1 ⟨rfl, b1⟩; have hb1 := hbw.trans (b1.mono hbw.size))
        all_goals
          go_ret2
          exact ⟨rfl, hb1⟩
      · by_cases hn : n = 0
        · have e : vq = (s, true) := by rw [HVQ.out]; exact if_pos ⟨rfl, hn⟩
          subst e
          subst hn
          cases d
          · exact absurd (of_decide_eq_false HD.out) (by simp)
          go_wp2_with (go_at_call 128; with_reducible refine (HW.out _ hbw).mono ?_; rintro e w1 ⟨rfl, b1⟩; have hb1 := hbw.trans (b1.mono hbw.size))
          go_ret2
          exact ⟨rfl, hb1⟩
        · have e : vq = ([], false) := by rw [HVQ.out]; exact if_neg fun h => hn h.2
          subst e
          cases d
          · go_wp2_with (go_at_call 128; with_reducible refine (HW.out _ hbw).mono ?_; rintro e w1 ⟨rfl, b1⟩; have hb1 := hbw.trans (b1.mono hbw.size))
            go_ret2
            exact ⟨rfl, hb1⟩
          · exact absurd (of_decide_eq_true HD.out) hn
end Go.Proofs.YtkmhdepohcncaaaGreatDoor

namespace Go.Proofs.YtkmhdepohcncaaaGreatDoor
open Go.RowKit

theorem fieldT_len {x : FieldR} (hs : x.s.length ≤ 32767) (hv : (valueP x).1.length ≤ 131067) : (fieldT x).length ≤ 131072 := by
  unfold fieldT
  split
  · unfold ofL
    split
    · omega
    · rw [pyData _ (by omega)]; simp [cnt, pack4]; omega
  · rw [pyData _ hv]; simp [cnt, pack4]; omega

structure OInv (w0 : World) (b : UInt8) (fs : List FieldR) (k : Nat) (u : Value) (wr : World) : Prop where
  bel : Below w0.heap.size w0 wr
  own : wr.ownsRow w0.heap.size 9 1 u (k + 1) (strs ((refDataL [b] :: (fs.take k).map fieldT).map bs))
theorem OInv.step {w0 : World} {b : UInt8} {fs : List FieldR} {k : Nat} {u u' : Value} {wr w2 w3 : World} {x : FieldR}
    (h : OInv w0 b fs k u wr) (hx : fs[k]? = some x) (b2 : Below wr.heap.size wr w2) (hg3 : Moves (fun i => u.ownBlock = some i) w2 w3)
    (hown : w3.ownsRow w0.heap.size 9 1 u' (k + 1 + 1) (strs ((refDataL [b] :: (fs.take k).map fieldT).map bs) ++ [.string (bs (fieldT x))])) : OInv w0 b fs (k + 1) u' w3 := by
  have own2 := rdOwn_moves h.own (Moves.ofBelow (S := nobody) b2) (fun _ _ h => h)
  have hB2 := h.bel.trans (b2.mono h.bel.size)
  refine ⟨hB2.trans (hg3.below hB2.size fun i hi => (own2.lt i hi).1), ?_⟩
  have hkn : k < fs.length := (List.getElem?_eq_some_iff.1 hx).1
  have e : (refDataL [b] :: (fs.take (k + 1)).map fieldT).map bs = (refDataL [b] :: (fs.take k).map fieldT).map bs ++ [bs (fieldT x)] := by
    rw [List.take_add_one, hx]
    simp
  rw [e, strs_snoc]
  exact hown

set_option maxHeartbeats 4000000 in
set_option maxRecDepth 100000 in
theorem r9Of_any {w : World} {b : UInt8} {f : ByteArray} {s : List UInt8} {v : Value} (hP : Parts b f s) (hs : s.length ≤ 32767) (hv : FieldsAt w v (fieldsF f s)) :
    Calls Tryz.prog 36 #[msgV (b.toNat : Int) v] w fun e w' => e = .returned (.string (bs (refListL (refDataL [b] :: (fieldsF f s).map fieldT)))) ∧ Below w.heap.size w w' := by
  have hn13 : (fieldsF f s).length ≤ 13 := by rw [hP.len]; exact hP.few
  have HSm := Lib.hid (fun x (hx : x ∈ fieldsF f s) => (hP.small x hx).mono hs)
  have HVl := Lib.hid (fun (k : Nat) (hk : k < (fieldsF f s).length) => hP.value_le hk)
  have hbl := UInt8.toNat_lt b
  have HBy := Lib.hid (fun W => qB_byte b W)
  have HD := Lib.hid (fun W => refData_any [b] (by simp) W)
  obtain ⟨ao, cap, rfl, hcap, _, _, hcells⟩ := hv
  have hw8 : IntKind.u8.wrap (b.toNat : Int) = (b.toNat : Int) := IntWalk.u8_in _ (by omega)
  have hw8b : (b.toNat : Int) % 256 = (b.toNat : Int) := by omega
  clear hP
  generalize fieldsF f s = fs at *
  have hr0 := Holds.new w 59 #[.int .i64 (b.toNat : Int), .slice ao fs.length cap]
  have hB0 : Below w.heap.size w (w.alloc (.cells #[.int .i64 (b.toNat : Int), .slice ao fs.length cap] 59)) := (Below.refl _ w).alloc (Nat.le_refl _) _
  have HR0 := Lib.hid hr0
  have HB0 := Lib.hid hB0
  have c0 := hr0.cell 0
  clear hr0 hB0
  unfold msgV
  obtain ⟨D0, hD0⟩ : ∃ D0, D0 = bs (refDataL [b]) := ⟨_, rfl⟩
  have HD0 := Lib.hid hD0
  rw [← hD0] at HD
  clear hD0
  go_enter Tryz.func36, Tryz.ntmps36
  go_wp2_with (first
    | (go_at_call 69; (with_reducible refine (HBy.out _).mono ?_); rintro e w1 ⟨rfl, b1⟩)
    | (go_at_call 35; (with_reducible refine (HD.out _).mono ?_); rintro e w2 ⟨rfl, b2⟩))
  have hb1 := HB0.out.trans (b1.mono HB0.out.size)
  have hb2 := hb1.trans (b2.mono hb1.size)
  have hb02 : Below (w.alloc (.cells #[.int .i64 (b.toNat : Int), .slice ao fs.length cap] 59)).heap.size (w.alloc (.cells #[.int .i64 (b.toNat : Int), .slice ao fs.length cap] 59)) w2 := b1.trans (b2.mono b1.size)
  have HR2 := Lib.hid (HR0.out.moves (Moves.ofBelow (S := nobody) hb02) (fun h => h))
  have HB2 := Lib.hid hb2
  have hg5 := Holds.new w2 9 #[.string D0]
  have hI : OInv w2 b fs 0 (.slice (some ⟨w2.heap.size, 0, none⟩) 1 1) (w2.alloc (.cells #[.string D0] 9)) := by
    refine ⟨(Below.refl _ _).alloc (Nat.le_refl _) _, rfl, .inr ⟨w2.heap.size, 1, _, rfl, Nat.le_refl _, hg5, Nat.le_refl _, by unfold maxLen; omega, by simp, by simp [strs, HD0.out]⟩⟩
  have HI := Lib.hid hI
  obtain ⟨j0, hi0, hz0, hz1, hz2⟩ := info_parts infoStr
  have HCe := Lib.hid hcells
  clear hb1 hb2 hb02 hg5 hI b1 b2 c0 HBy HD hcells hw8 hw8b HR0 HB0
  generalize w2.alloc (.cells #[.string D0] 9) = W3 at *
  obtain ⟨n, hn⟩ : ∃ n, n = fs.length := ⟨_, rfl⟩
  rw [← hn] at hn13 hcap HR2 ⊢
  have HN := Lib.hid hn
  clear hn
  go_loopw [3, 4] (fun p i wr => ∃ (k : Nat) (u : Value), u = p ∧ k ≤ n ∧ i = .int .i64 k ∧ OInv w2 b fs k u wr) (fun _ i _ => n - (intOf i).toNat)
  case atStart => exact ⟨0, _, rfl, Nat.zero_le _, rfl, HI.out⟩
  case round =>
    clear HI
    obtain ⟨k, u, hv0, hkn, rfl, hinv⟩ := hrel
    subst hv0
    have hD := HR2.out.moves (Moves.ofBelow (S := nobody) hinv.bel) (fun h => h)
    have d1 := hD.cell 1
    have hBw : Below w.heap.size w wr := HB2.out.trans (hinv.bel.mono HB2.out.size)
    have HBw := Lib.hid hBw
    by_cases hlt : k < n
    · have hkf : k < fs.length := by rw [← HN.out]; exact hlt
      have hfk : fs[k]? = some (fs.getD k zeroF) := by rw [List.getD_eq_getElem?_getD, List.getElem?_eq_getElem hkf]; rfl
      have hmem : fs.getD k zeroF ∈ fs := List.mem_of_getElem? hfk
      obtain ⟨bF, off, rfl, hbF, hat⟩ := HCe.out (fun e => by rw [e] at hkf; simp at hkf)
      obtain ⟨y0, y1, y2, a2, cap2, y3, hcap2, hT2⟩ := (hat k _ hfk).below hbF (show Below w.heap.size w wr from hBw)
      have hsm := HSm.out _ hmem
      have hvl : (valueP (fs.getD k zeroF)).1.length ≤ 131067 := by
        have := HVl.out k hkf
        have e : fs.getD k zeroF = fs[k]'hkf := by rw [List.getD_eq_getElem?_getD, List.getElem?_eq_getElem hkf]; rfl
        rw [e]
        omega
      have hsl := hsm.s
      have HOf := Lib.hid (fun W => r8Of_any (fs.getD k zeroF).s (by omega) W)
      have HVa := Lib.hid (qvalue_any (w := wr) hT2 (hsm.ok (Nat.le_refl _)))
      rw [value_same] at HVa
      have HDa := Lib.hid (fun W => refData_any (valueP (fs.getD k zeroF)).1 (by omega) W)
      have hE : fieldT (fs.getD k zeroF) = if (fs.getD k zeroF).kind = 116 then ofL (fs.getD k zeroF).s else refDataL (valueP (fs.getD k zeroF)).1 := rfl
      have HOwn : Hid (∀ (W : World), Below wr.heap.size wr W → W.ownsRow w2.heap.size 9 1 u (k + 1) (strs ((refDataL [b] :: (fs.take k).map fieldT).map bs))) := fun W hL => rdOwn_moves hinv.own (Moves.ofBelow (S := nobody) hL) (fun _ _ h => h)
      have HSt := Lib.hid (fun (w4 w3 : World) (u' : Value) => OInv.step (w2 := w4) (w3 := w3) (u' := u') hinv hfk)
      have HSz := Lib.hid hinv.bel.size
      clear hD hBw hkf hmem hat hT2 hsm hvl hsl hfk hinv hcap2
      generalize strs ((refDataL [b] :: (fs.take k).map fieldT).map bs) = SX at *
      generalize fieldT (fs.getD k zeroF) = FT at *
      generalize fs.getD k zeroF = x at *
      obtain ⟨kd, xn, xs, xl⟩ := x
      unfold fieldV at HVa
      simp only at HOf HVa HDa hE y0 y1 y2 y3
      by_cases hk : kd = 116
      · rw [if_pos hk] at hE
        have HE := Lib.hid hE
        have hk' : (kd.toNat : Int) = 116 := by rw [hk]; rfl
        rw [hk'] at y0
        clear hE hk hk' HVa HDa
        obtain ⟨OX, hOX⟩ : ∃ OX, OX = bs (ofL xs) := ⟨_, rfl⟩
        have HOX := Lib.hid hOX
        rw [← hOX] at HOf
        clear hOX
        go_wp2_with (first
          | (go_at_call 50; (with_reducible refine (HOf.out _).mono ?_); rintro e w4 ⟨rfl, b4⟩; have hown4 := HOwn.out _ b4; have hW4 : w2.heap.size ≤ w4.heap.size := Nat.le_trans HSz.out b4.size)
          | (at_builtin; refine wpList_append_own _ rfl (.tmp 27) (.tmp 35) 35 rfl w2.heap.size 9 j0 (.string ⟨#[]⟩) 1 16 Tryz.underlying35 hi0 hz0 hz1 hz2 rfl (by decide) _ _ _ rfl (hown4.alloc _) ⟨w4.heap.size, 0, none⟩ 1 1 [.string OX] rfl rfl (cell_one_new _ _ _) (str_one OX) (by unfold maxLen; omega) (by omega) (by simp; omega) ?_))
        intro v' w3 hown3 hg3 _
        have m' : Moves (fun i => u.ownBlock = some i) w4 w3 := ((Moves.refl _ w4).alloc _).grown hg3 fun i hi => .inl hi
        have hinv3 := HSt.out w4 w3 v' b4 m' (by rw [HE.out, ← HOX.out]; exact hown3)
        have HInv3 := Lib.hid hinv3
        clear hinv3 m' hown3 hg3 hown4 HOwn
        go_wp2_with fail
        go_roundw
        case rel => exact ⟨k + 1, v', rfl, by omega, by go_num, HInv3.out⟩
        case measure => simp [intOf]; omega
      · rw [if_neg hk] at hE
        have HE := Lib.hid hE
        have hk' : ((kd.toNat : Int) == 116) = false := by
          rw [beq_eq_false_iff_ne]
          intro e
          exact hk (UInt8.toNat_inj.1 (by show kd.toNat = 116; omega))
        clear hE hk HOf
        obtain ⟨OX, hOX⟩ : ∃ OX, OX = bs (refDataL (valueP { kind := kd, n := xn, s := xs, l := xl }).1) := ⟨_, rfl⟩
        have HOX := Lib.hid hOX
        rw [← hOX] at HDa
        clear hOX
        generalize bs (valueP { kind := kd, n := xn, s := xs, l := xl }).1 = V1 at *
        generalize (valueP { kind := kd, n := xn, s := xs, l := xl }).2 = V2 at *
        generalize bs xs = XS at *
        generalize xl.length = xll at *
        generalize kd.toNat = kn at *
        go_wp2_with (first
          | (go_at_call 70; (with_reducible refine HVa.out.mono ?_); rintro e w5 ⟨rfl, b5⟩)
          | (go_at_call 35; (with_reducible refine (HDa.out _).mono ?_); rintro e w4 ⟨rfl, b45⟩; have b4 := b5.trans (b45.mono b5.size); have hown4 := HOwn.out _ b4; have hW4 : w2.heap.size ≤ w4.heap.size := Nat.le_trans HSz.out b4.size)
          | (at_builtin; refine wpList_append_own _ rfl (.tmp 46) (.tmp 49) 35 rfl w2.heap.size 9 j0 (.string ⟨#[]⟩) 1 16 Tryz.underlying35 hi0 hz0 hz1 hz2 rfl (by decide) _ _ _ rfl (hown4.alloc _) ⟨w4.heap.size, 0, none⟩ 1 1 [.string OX] rfl rfl (cell_one_new _ _ _) (str_one OX) (by unfold maxLen; omega) (by omega) (by simp; omega) ?_))
        intro v' w3 hown3 hg3 _
        have m' : Moves (fun i => u.ownBlock = some i) w4 w3 := ((Moves.refl _ w4).alloc _).grown hg3 fun i hi => .inl hi
        have hinv3 := HSt.out w4 w3 v' b4 m' (by rw [HE.out, ← HOX.out]; exact hown3)
        have HInv3 := Lib.hid hinv3
        clear hinv3 m' hown3 hg3 hown4 HOwn
        go_wp2_with fail
        go_roundw
        case rel => exact ⟨k + 1, v', rfl, by omega, by go_num, HInv3.out⟩
        case measure => simp [intOf]; omega
    · have hkn2 : k = n := by omega
      subst hkn2
      have htk : fs.take k = fs := List.take_of_length_le (by have := HN.out; omega)
      have hown := hinv.own
      rw [htk] at hown
      have hTx : TextsAt wr u ((refDataL [b] :: fs.map fieldT).map bs) := TextsAt.ofRow (by rw [List.length_map, List.length_cons, List.length_map, ← HN.out]; exact hown) (fun e => by simp at e)
      have HL := Lib.hid (refList_any hTx (by rw [List.length_cons, List.length_map, ← HN.out]; omega) (fun y hy => by
        rcases List.mem_cons.1 hy with rfl | hy
        · rw [pyData _ (by simp)]; simp [cnt, pack4]
        · obtain ⟨x, hx, rfl⟩ := List.mem_map.1 hy
          obtain ⟨j, hj, rfl⟩ := List.mem_iff_getElem.1 hx
          have h1 := HVl.out j hj
          have h2 := (HSm.out _ (List.getElem_mem hj)).s
          have := fieldT_len (x := fs[j]) h2 (by omega)
          omega))
      have HC : Hid (∃ ao cap, u = .slice ao (k + 1) cap) := by
        rcases hinv.own.2 with ⟨_, h0⟩ | ⟨g, cap, cur, hv, _⟩
        · omega
        · exact ⟨_, cap, hv⟩
      clear hinv hown hTx htk hlt hD
      obtain ⟨ao', cap', rfl⟩ := HC.out
      go_wp2_with (go_at_call 71; (with_reducible refine HL.out.mono ?_); rintro e w6 ⟨rfl, b6⟩)
      go_ret
      exact ⟨rfl, HBw.out.trans (b6.mono HBw.out.size)⟩

set_option maxHeartbeats 1000000 in
set_option maxRecDepth 100000 in
theorem r9Term_any {w : World} (p : List UInt8) (hp : p.length ≤ 2000) :
    Calls Tryz.prog 12 #[.string (bs p)] w fun e w' => e = .returned (.string (bs (termP p))) ∧ Below w.heap.size w w' := by
  have hsz := bs_size p
  have HD := Lib.hid (rgdec_any (w := w) p hp)
  have HDa := Lib.hid (fun W => refData_any p (by omega) W)
  have HTn := Lib.hid (fun h => dataT_any (p := p) h)
  have HTs := Lib.hid (fun b f s h => listT_any (p := p) (b := b) (f := f) (s := s) h)
  have HPt := Lib.hid (fun b f s h => msgP_parts (p := p) (b := b) (f := f) (s := s) h)
  obtain ⟨T, hT⟩ : ∃ T, T = bs (termP p) := ⟨_, rfl⟩
  have HT := Lib.hid hT
  rw [← hT]
  clear hT
  generalize bs p = P at *
  go_enter Tryz.func12, Tryz.ntmps12
  go_wp2_with fail
  go_at_call 34
  (with_reducible refine HD.out.mono ?_)
  rintro e w1 ⟨b1, hc⟩
  clear HD
  rcases hc with ⟨b, f, s, v, hm, rfl, hk⟩ | ⟨hm, c, z, hc0, rfl⟩
  · have hts := HTs.out b f s hm
    obtain ⟨_, hs, _, hP⟩ := HPt.out b f s hm
    have hb2 := (b1.alloc b1.size (.cells #[.int .i64 (b.toNat : Int), v] 59)).alloc (Nat.le_trans b1.size (by simp)) (.cells #[.int .i64 0, .string ⟨#[]⟩] 78)
    have hb12 : Below w1.heap.size w1 ((w1.alloc (.cells #[.int .i64 (b.toNat : Int), v] 59)).alloc (.cells #[.int .i64 0, .string ⟨#[]⟩] 78)) := ((Below.refl _ w1).alloc (Nat.le_refl _) _).alloc (by simp) _
    have HO := Lib.hid (r9Of_any hP hs (hk.below hb12))
    rw [← hts, ← HT.out] at HO
    have HB2 := Lib.hid hb2
    obtain ⟨ao, cap, rfl, _⟩ := hk
    clear hm hts hs hP hb2 hb12 b1 HTs HPt HTn HDa
    unfold msgV at *
    generalize (fieldsF f s).length = nf at *
    go_wp2_with (go_at_call 36; (with_reducible refine HO.out.mono ?_); rintro e w5 ⟨rfl, b5⟩)
    go_ret
    exact ⟨rfl, HB2.out.trans (b5.mono HB2.out.size)⟩
  · rw [← HTn.out hm, ← HT.out] at HDa
    have HB2 := Lib.hid ((b1.alloc b1.size (.cells #[.int .i64 0, .slice none 0 0] 59)).alloc (Nat.le_trans b1.size (by simp)) (.cells #[.int .i64 c, .string z] 78))
    have q : (c != 0) = true := by rw [bne_iff_ne]; exact hc0
    clear hm b1 HTs HPt HTn hc0
    unfold zeroM
    go_wp2_with (go_at_call 35; (with_reducible refine (HDa.out _).mono ?_); rintro e w5 ⟨rfl, b5⟩)
    go_ret
    exact ⟨rfl, HB2.out.trans (b5.mono HB2.out.size)⟩
end Go.Proofs.YtkmhdepohcncaaaGreatDoor
