/- The walk of TermShares. -/
import Derived.Test.YtamgbeinmfgglaaSharePure
import Derived.Test.YtamgbeinmfgglaaLong
import Derived.Deep.DeepCutAuto
import Derived.Deep.CutRange
import Derived.Deep.RegionWith
import Derived.Deep.RegionHeld3
namespace Go.Proofs.Ytamgbeinmfgglaa
open Go.RowKit

/-- A slice value that reads as these pairs. -/
def PairsAt (w : World) (v : Value) (l : List (Int × Int)) : Prop :=
  ∃ ao cap, v = .slice ao l.length cap ∧ (l ≠ [] → ∃ b off, ao = some ⟨b, off, none⟩ ∧ b < w.heap.size ∧ ∀ k p, l[k]? = some p → w.cell? ⟨b, off + k * 2, none⟩ = some (.int .i64 p.1) ∧ w.cell? ⟨b, off + k * 2 + 1, none⟩ = some (.int .i64 p.2))

theorem simple {B A : Nat} {L : List Ent} {F : Nat → Prop} {w : World} {f : FuncId} {args : Array Value} {m : Int × List Ent} (ha : ArenaAt B A L F w) (h : Calls Try.prog f args w (Makes B A F w m)) :
    Calls Try.prog f args w fun e w' => e = .returned (.int .i64 m.1) ∧ ∃ F', ArenaAt B A m.2 F' w' ∧ Below B w w' := h.mono fun _ _ hm => hm.out ha
theorem Exp_s {B A : Nat} {L : List Ent} {F : Nat → Prop} {w : World} (ha : ArenaAt B A L F w) (hlen : L.length < 1073741824) (share x : Int) :
    Calls Try.prog 24 #[.pointer (some ⟨A, 0, none⟩), .int .i64 share, .int .i64 x] w fun e w' => ∃ m : Int × List Ent, ExpTo L share x m ∧ e = .returned (.int .i64 m.1) ∧ ∃ F', ArenaAt B A m.2 F' w' ∧ Below B w w' :=
  (Exp_any ha hlen share x).mono fun _ _ ⟨m, h1, h2⟩ => ⟨m, h1, h2.out ha⟩

/-- The place that the i-th exponent of the second share is taken from. -/
def swapAt (p q i : Nat) : Nat := if i = q then p else if i = p then q else i
def swapped (l : List (Int × Int)) (p q k : Nat) : List (Int × Int) := (List.range k).map fun i => l.getD (swapAt p q i) (0, 0)
theorem swapped_succ (l : List (Int × Int)) (p q k : Nat) : swapped l p q (k + 1) = swapped l p q k ++ [l.getD (swapAt p q k) (0, 0)] := by
  simp [swapped, List.range_succ]
theorem swapped_perm (l : List (Int × Int)) {p q : Nat} (hp : p < l.length) (hq : q < l.length) : (swapped l p q l.length).Perm l := by
  have h := Array.swap_perm (xs := l.toArray) (i := p) (j := q) (by simpa using hp) (by simpa using hq)
  have h2 : swapped l p q l.length = (l.toArray.swap p q (by simpa using hp) (by simpa using hq)).toList := by
    apply List.ext_getElem
    · simp [swapped]
    · intro i h1 h2
      have hi : i < l.length := by simpa [swapped] using h1
      simp only [swapped, List.getElem_map, List.getElem_range, Array.getElem_toList, Array.getElem_swap, swapAt]
      by_cases e1 : i = q
      · subst e1
        by_cases e2 : i = p
        · subst e2; simp [List.getD, hi]
        · simp [e2, List.getD, hp]
      · by_cases e2 : i = p
        · subst e2; simp [e1, List.getD, hq]
        · simp [e1, e2, List.getD, hi]
  rw [h2]
  have := h.toList
  simpa using this

theorem conv_u8 (x : Nat) (hx : x ≤ 255) (W : World) : (convert 5 3 (.int .u8 (x : Int))).run Try.prog W = .ok (.int .i64 (x : Int)) W := by
  have h : IntKind.i64.wrap (x : Int) = (x : Int) := IntWalk.i64_in _ (by omega)
  simp [go_sem, Try.underlying5, Try.underlying3, h]
set_option maxHeartbeats 4000000 in
set_option maxRecDepth 100000 in
theorem TermShares_small (g : ByteArray) (hg : g.size ≤ 200) (l : List (Int × Int)) (hl : l.length ≤ 8) (v : Value) (x0 x1 : Nat) (hx0 : x0 ≤ 255) (hx1 : x1 ≤ 255) (w : World) (hv : PairsAt w v l) :
    Calls Try.prog 5 #[.string g, v, .agg #[.int .u8 x0, .int .u8 x1]] w fun e w' => e = .returned (.bool true) ∧ Below w.heap.size w w' := by
  obtain ⟨ao, cap, rfl, hc⟩ := hv
  have hm0 : Below w.heap.size w (w.alloc (.cells #[.int .u8 x0, .int .u8 x1] 47)) := (Below.refl _ _).alloc (Nat.le_refl _) _
  have hX0 := Holds.new w 47 #[.int .u8 x0, .int .u8 x1]
  have hc0 : l ≠ [] → ∃ b off, ao = some ⟨b, off, none⟩ ∧ b < w.heap.size ∧ ∀ k p, l[k]? = some p → (w.alloc (.cells #[.int .u8 x0, .int .u8 x1] 47)).cell? ⟨b, off + k * 2, none⟩ = some (.int .i64 p.1) ∧ (w.alloc (.cells #[.int .u8 x0, .int .u8 x1] 47)).cell? ⟨b, off + k * 2 + 1, none⟩ = some (.int .i64 p.2) := fun hne => by
    obtain ⟨b, off, e1, e2, e3⟩ := hc hne
    exact ⟨b, off, e1, e2, fun k p hk => ⟨(hm0.cell (p := ⟨b, off + k * 2, none⟩) e2).trans (e3 k p hk).1, (hm0.cell (p := ⟨b, off + k * 2 + 1, none⟩) e2).trans (e3 k p hk).2⟩⟩
  clear hc
  have hd1 : decide ((8 : Int) < (l.length : Int)) = false := by simp; omega
  have hd2 : decide ((200 : Int) < (g.size : Int)) = false := by simp; omega
  go_enter Try.func5, Try.ntmps5
  go_wp2_with fail
  generalize w.alloc (.cells #[.int .u8 x0, .int .u8 x1] 47) = W0 at *
  generalize hXX : w.heap.size = X at *
  have hXW : X < W0.heap.size := hX0.lt
  clear hd1 hd2
  refine (New_any _).mono ?_
  rintro e w1 ⟨A, F, rfl, h1, b1⟩
  go_wp2_with fail
  refine (Base_any h1 (by simp) g (by omega)).mono ?_
  intro e w2 hmk
  obtain ⟨hg1, hp1, hr1⟩ := ShRel.base Good.nil (by simp) g
  obtain ⟨rfl, F2, h2, b2⟩ := hmk.out h1
  have hl1 : (baseM [] g).2.length ≤ 1 := by
    by_cases hgg : 1 ≤ g.size ∧ g.size ≤ 2100
    · exact (base_got Good.nil (by simp) hgg.1 hgg.2).len
    · rw [base_none hgg]; simp
  generalize hb0 : baseM [] g = m1 at *
  obtain ⟨s1, L1⟩ := m1
  simp only at *
  clear hmk hb0 hp1
  go_wp2_with fail
  refine (Base_any h2 (by omega) g (by omega)).mono ?_
  intro e w3 hmk
  obtain ⟨hg2, hp2, hr2⟩ := ShRel.base hg1 (by omega) g
  obtain ⟨rfl, F3, h3, b3⟩ := hmk.out h2
  have hl2 : (baseM L1 g).2.length ≤ 2 := by
    by_cases hgg : 1 ≤ g.size ∧ g.size ≤ 2100
    · have := (base_got hg1 (by omega) hgg.1 hgg.2).len; omega
    · rw [base_none hgg]; simp only; omega
  have hr1' := hr1.pre hp2
  generalize hb0 : baseM L1 g = m2 at *
  obtain ⟨t1, L2⟩ := m2
  simp only at *
  have hbel : Below W0.heap.size W0 w3 := b1.trans (b2.trans b3)
  clear hmk hb0 hp2 hr1 hg1 h1 h2 b1 b2 b3 hl1
  go_wp2_with fail
  go_loopw [8, 9, 11] (fun s t i wr => ∃ (k : Nat) (L : List Ent) (F : Nat → Prop) (sv tv : Int), k ≤ l.length ∧ s = .int .i64 sv ∧ t = .int .i64 tv ∧ i = .int .i64 k ∧ Good L ∧ L.length ≤ 2 + 4 * k ∧ ArenaAt W0.heap.size A L F wr ∧
      ShRel L g (l.take k) sv ∧ ShRel L g (swapped l (x0 % l.length) (x1 % l.length) k) tv ∧ Below W0.heap.size W0 wr) (fun _ _ i _ => l.length - (intOf i).toNat)
  case atStart => exact ⟨0, L2, F3, s1, t1, Nat.zero_le _, rfl, rfl, rfl, hg2, hl2, h3, hr1', hr2, hbel⟩
  case round =>
    clear hr1' hr2 hbel h3 hg2 hl2
    obtain ⟨k, L, F, s, t, hk, rfl, rfl, rfl, hG, hLl, ha, hs, ht, hbel⟩ := hrel
    by_cases hlt : k < l.length
    · obtain ⟨b, off, rfl, hb, hcell⟩ := hc0 (by rintro rfl; simp at hlt)
      have hXr : Holds wr X 47 #[.int .u8 x0, .int .u8 x1] := (hbel.block X hXW).trans hX0
      have y0 : wr.cell? ⟨X, 0, none⟩ = some (.int .u8 x0) := hXr.cell 0
      have y1 : wr.cell? ⟨X, 1, none⟩ = some (.int .u8 x1) := hXr.cell 1
      have cv0 := conv_u8 x0 hx0
      have cv1 := conv_u8 x1 hx1
      obtain ⟨P, hP⟩ : ∃ P, P = x0 % l.length := ⟨_, rfl⟩
      obtain ⟨Q, hQ⟩ : ∃ Q, Q = x1 % l.length := ⟨_, rfl⟩
      have hPl : P < l.length := by rw [hP]; exact Nat.mod_lt _ (by omega)
      have hQl : Q < l.length := by rw [hQ]; exact Nat.mod_lt _ (by omega)
      have e0 : Hid ((x0 : Int) % (l.length : Int) = (P : Int)) := by unfold Hid; rw [hP]; simp
      have e1 : Hid ((x1 : Int) % (l.length : Int) = (Q : Int)) := by unfold Hid; rw [hQ]; simp
      rw [← hP, ← hQ] at ht
      have HP := Lib.hid hP
      have HQ := Lib.hid hQ
      clear hP hQ
      go_wp2_with fail
      go_quiet (fail)
      rw [e0.out, e1.out]
      clear y0 y1 cv0 cv1
      have hnq : Below W0.heap.size W0 (wr.drewN nq) := bdrewN hbel nq
      have hanq : ArenaAt W0.heap.size A L F (wr.drewN nq) := ha.moves (S := nobody) ((Moves.refl _ _).drewN nq) fun _ _ h => h
      clear ha hbel hXr
      generalize wr.drewN nq = W1 at *
      obtain ⟨K1, hK1⟩ : ∃ K1, K1 = if k = P then Q else k := ⟨_, rfl⟩
      have HK1 := Lib.hid hK1
      clear hK1
      go_upto_if 51 with (fail)
      go_cut [12] (fun v wx => v = .int .i64 (K1 : Int) ∧ W1 = wx)
      case first =>
        by_cases e1 : k = P
        · have h1 : ((k : Int) == (P : Int)) = true := by simp [e1]
          have E1 := Lib.hid e1
          clear e1
          go_wp2_with fail
          go_meet
          case rel => exact ⟨by rw [HK1.out, if_pos E1.out], rfl⟩
        · have h1 : ((k : Int) == (P : Int)) = false := by simp; omega
          have E1 := Lib.hid e1
          clear e1
          go_wp2_with fail
          go_meet
          case rel => exact ⟨by rw [HK1.out, if_neg E1.out], rfl⟩
      case rest =>
        obtain ⟨rfl, rfl⟩ := hcut
        go_upto_if 55 with (fail)
        obtain ⟨K, hK⟩ : ∃ K, K = swapAt P Q k := ⟨_, rfl⟩
        have hKl : K < l.length := by rw [hK]; unfold swapAt; split; exact hPl; split; exact hQl; exact hlt
        have HK := Lib.hid hK
        clear hK
        go_cut [12] (fun v wx => v = .int .i64 (K : Int) ∧ W1 = wx)
        case first =>
          by_cases e1 : k = Q
          · have h1 : ((k : Int) == (Q : Int)) = true := by simp [e1]
            have E1 := Lib.hid e1
            clear e1
            go_wp2_with fail
            go_meet
            case rel => exact ⟨by rw [HK.out, swapAt, if_pos E1.out], rfl⟩
          · have h1 : ((k : Int) == (Q : Int)) = false := by simp; omega
            have E1 := Lib.hid e1
            clear e1
            go_wp2_with fail
            go_meet
            case rel => exact ⟨by rw [HK.out, swapAt, if_neg E1.out, HK1.out], rfl⟩
        case rest =>
          obtain ⟨rfl, rfl⟩ := hcut
          obtain ⟨⟨p1, p2⟩, hpk⟩ : ∃ p, p = l[k] := ⟨_, rfl⟩
          have hck := hcell k l[k] (List.getElem?_eq_getElem hlt)
          rw [← hpk] at hck
          obtain ⟨⟨r1, r2⟩, hrk⟩ : ∃ p, p = l[K] := ⟨_, rfl⟩
          have hcK := hcell K l[K] (List.getElem?_eq_getElem hKl)
          rw [← hrk] at hcK
          have hbW : b < W0.heap.size := by omega
          have q1 := (hnq.cell (p := ⟨b, off + k * 2, none⟩) hbW).trans hck.1
          have q2 := (hnq.cell (p := ⟨b, off + k * 2 + 1, none⟩) hbW).trans hck.2
          have HT1 : Hid (l.take (k + 1) = l.take k ++ [(p1, p2)]) := by unfold Hid; rw [hpk]; exact List.take_succ_eq_append_getElem hlt
          have HT2 : Hid (swapped l P Q (k + 1) = swapped l P Q k ++ [(r1, r2)]) := by
            unfold Hid
            rw [swapped_succ, ← HK.out, hrk]
            simp [List.getD, hKl]
          have HPK := Lib.hid hpk
          have HRK := Lib.hid hrk
          clear hpk hrk
          go_upto_region 15 with fail
          go_cut [8] (fun v wx => ∃ (L' : List Ent) (F' : Nat → Prop) (s' : Int), v = .int .i64 s' ∧ Good L' ∧ L'.length ≤ 4 + 4 * k ∧ ArenaAt W0.heap.size A L' F' wx ∧ ShRel L' g (l.take (k + 1)) s' ∧
            ShRel L' g (swapped l P Q k) t ∧ Below W0.heap.size W0 wx)
          case first =>
            have q1' : W1.drew.cell? ⟨b, off + k * 2, none⟩ = some (.int .i64 p1) := q1
            have q2' : W1.drew.cell? ⟨b, off + k * 2 + 1, none⟩ = some (.int .i64 p2) := q2
            have ha' : ArenaAt W0.heap.size A L F W1.drew := hanq.moves (S := nobody) (Moves.refl _ _).drew fun _ _ h => h
            have hbd : Below W0.heap.size W0 W1.drew := hnq.drew
            clear hcell hc0 hck hcK
            have hnl : (nonceM L p1 p2).2.length ≤ L.length + 1 := by
              by_cases hpp : isNum p1 = true ∧ isNum p2 = true
              · exact (nonce_got hG (by omega) hpp.1 hpp.2).len
              · rw [nonce_none hpp]; simp
            have hstep := fun m hm => ShRel.step hG (by omega) hs (by rw [List.length_take]; omega) (p1, p2) (m := m) hm
            simp only at hstep
            have hN := simple ha' (Nonce_any ha' (by omega) p1 p2)
            generalize nonceM L p1 p2 = mm at *
            obtain ⟨nid, LN⟩ := mm
            simp only at hstep hN hnl
            go_region_with (first
              | (go_at_call 25; refine hN.mono ?_; rintro e w4 ⟨rfl, F4, h4, b4⟩)
              | (go_at_call 24; refine (Exp_s h4 (by omega) s nid).mono ?_; rintro e w5 ⟨m5, hm5, rfl, F5, h5, b5⟩))
            all_goals
              obtain ⟨z1, z2, z3, z4⟩ := hstep m5 hm5
              go_wp2_with fail
              go_meet
              case rel => exact ⟨m5.2, F5, m5.1, rfl, z1, by omega, h5, by rw [HT1.out]; exact z4, ht.pre z2, hbd.trans (b4.trans b5)⟩
          case rest =>
            clear hs ht hanq hnq q1 q2 hG hLl
            obtain ⟨L2, F2', s2, rfl, hG, hLl, ha, hs, ht, hbel⟩ := hcut
            have q1 := (hbel.cell (p := ⟨b, off + K * 2, none⟩) hbW).trans hcK.1
            have q2 := (hbel.cell (p := ⟨b, off + K * 2 + 1, none⟩) hbW).trans hcK.2
            go_upto_region 16 with fail
            have q1' : wc.drew.cell? ⟨b, off + K * 2, none⟩ = some (.int .i64 r1) := q1
            have q2' : wc.drew.cell? ⟨b, off + K * 2 + 1, none⟩ = some (.int .i64 r2) := q2
            have ha' : ArenaAt W0.heap.size A L2 F2' wc.drew := ha.moves (S := nobody) (Moves.refl _ _).drew fun _ _ h => h
            have hbd : Below W0.heap.size W0 wc.drew := hbel.drew
            clear hcell hc0 hck hcK
            have hnl : (nonceM L2 r1 r2).2.length ≤ L2.length + 1 := by
              by_cases hpp : isNum r1 = true ∧ isNum r2 = true
              · exact (nonce_got hG (by omega) hpp.1 hpp.2).len
              · rw [nonce_none hpp]; simp
            have hstep := fun m hm => ShRel.step hG (by omega) ht (by simp [swapped]; omega) (r1, r2) (m := m) hm
            simp only at hstep
            have hN := simple ha' (Nonce_any ha' (by omega) r1 r2)
            generalize nonceM L2 r1 r2 = mm at *
            obtain ⟨nid, LN⟩ := mm
            simp only at hstep hN hnl
            go_region_with (first
              | (go_at_call 25; refine hN.mono ?_; rintro e w4 ⟨rfl, F4, h4, b4⟩)
              | (go_at_call 24; refine (Exp_s h4 (by omega) t nid).mono ?_; rintro e w5 ⟨m5, hm5, rfl, F5, h5, b5⟩))
            all_goals
              obtain ⟨z1, z2, z3, z4⟩ := hstep m5 hm5
              go_wp2_with fail
              go_roundw
              case rel => exact ⟨k + 1, m5.2, F5, s2, m5.1, by omega, rfl, rfl, by go_num, z1, by omega, h5, hs.pre z2, by rw [← HP.out, ← HQ.out, HT2.out]; exact z4, hbd.trans (b4.trans b5)⟩
              case measure => simp [intOf]; omega
    · have hkl : k = l.length := by omega
      subst hkl
      rw [List.take_length] at hs
      have hst : s = t := by
        rcases Nat.eq_zero_or_pos l.length with h0 | h0
        · refine ShRel.unique hG hs ht ?_
          have hl0 : l = [] := List.eq_nil_of_length_eq_zero h0
          subst hl0
          simp [swapped]
        · exact ShRel.unique hG hs ht (swapped_perm l (Nat.mod_lt _ h0) (Nat.mod_lt _ h0)).symm
      subst hst
      clear ht hk hlt
      have hbend : Below X w wr := hm0.trans (hbel.mono (by omega))
      have hXle : X ≤ wr.heap.size := by rw [← hXX]; exact hbend.size
      have hne : (s != s) = false := by simp
      by_cases hcase : 0 < l.length ∧ l.length < 8 ∧ s ≠ -1
      · obtain ⟨h0, h8, hs1⟩ := hcase
        obtain ⟨b, off, rfl, hb, hcell⟩ := hc0 (by rintro rfl; simp at h0)
        obtain ⟨⟨p1, p2⟩, hpk⟩ : ∃ p, p = l[0] := ⟨_, rfl⟩
        have hck := hcell 0 l[0] (List.getElem?_eq_getElem h0)
        rw [← hpk] at hck
        simp only [Nat.zero_mul, Nat.add_zero] at hck
        have hbW : b < W0.heap.size := by omega
        have q1 : wr.drew.cell? ⟨b, off, none⟩ = some (.int .i64 p1) := (hbel.cell (p := ⟨b, off, none⟩) hbW).trans hck.1
        have q2 : wr.drew.cell? ⟨b, off + 1, none⟩ = some (.int .i64 p2) := (hbel.cell (p := ⟨b, off + 1, none⟩) hbW).trans hck.2
        have ha' : ArenaAt W0.heap.size A L F wr.drew := ha.moves (S := nobody) (Moves.refl _ _).drew fun _ _ h => h
        have hbd : Below W0.heap.size W0 wr.drew := hbel.drew
        have hnl : (nonceM L p1 p2).2.length ≤ L.length + 1 := by
          by_cases hpp : isNum p1 = true ∧ isNum p2 = true
          · exact (nonce_got hG (by omega) hpp.1 hpp.2).len
          · rw [nonce_none hpp]; simp
        have hstep := fun m hm => ShRel.step hG (by omega) hs h8 (p1, p2) (m := m) hm
        simp only at hstep
        have hN := simple ha' (Nonce_any ha' (by omega) p1 p2)
        generalize nonceM L p1 p2 = mm at *
        obtain ⟨nid, LN⟩ := mm
        simp only at hstep hN hnl
        have hll : l.length + 1 ≠ l.length := by omega
        have HXX := Lib.hid hXX
        have HA := Lib.hid (fun (M : List Ent) (hp : L <+: M) (t : Int) (ht : ShRel M g (l ++ [(p1, p2)]) t) => (hs.pre hp).apart ht (by simp) hs1)
        have HBb := Lib.hid (fun (M : List Ent) (hp : L <+: M) (t : Int) (ht : ShRel M g [] t) => (hs.pre hp).apart ht (by show l.length ≠ 0; omega) hs1)
        have HS1 := Lib.hid hs1
        have hsb : (s != -1) = true := by simpa using hs1
        clear hcell hc0 hck hpk hs1 hXX hs hX0 ha hbel
        generalize l.length = N at *
        have d1 : decide ((0 : Int) < (N : Int)) = true := by simp; omega
        have d2 : decide ((N : Int) < 8) = true := by simp; omega
        go_wp2_with fail
        go_region_held3 (fun w' => w'.cell? ⟨b, off, none⟩ = some (.int .i64 p1) ∧ w'.cell? ⟨b, off + 1, none⟩ = some (.int .i64 p2)) (first | exact ⟨q1, q2⟩ | exact ⟨q41, q42⟩ | exact ⟨q51, q52⟩ | exact ⟨q61, q62⟩)
          (first
          | (go_at_call 25
             refine hN.mono ?_
             rintro e w4 ⟨rfl, F4, h4, b4⟩
             have q41 := (b4.cell (p := ⟨b, off, none⟩) hbW).trans q1
             have q42 := (b4.cell (p := ⟨b, off + 1, none⟩) hbW).trans q2)
          | (go_at_call 24
             refine (Exp_s h4 (by omega) s nid).mono ?_
             rintro e w5 ⟨m5, hm5, rfl, F5, h5, b5⟩
             obtain ⟨z1, z2, z3, z4⟩ := hstep m5 hm5
             have hn5 : (m5.1 == s) = false := by simpa using HA.out _ z2 _ z4
             have hl5 : m5.2.length < 1073741824 := by omega
             obtain ⟨y1, y2, y3⟩ := ShRel.base z1 hl5 g
             have hn6 : ((baseM m5.2 g).1 == s) = false := by simpa using HBb.out _ (z2.trans y2) _ y3
             have hBs := simple h5 (Base_any h5 hl5 g (by omega))
             generalize baseM m5.2 g = m6 at *
             have q51 := (b5.cell (p := ⟨b, off, none⟩) hbW).trans q41
             have q52 := (b5.cell (p := ⟨b, off + 1, none⟩) hbW).trans q42)
          | (go_at_call 23
             refine hBs.mono ?_
             rintro e w6 ⟨rfl, F6, h6, b6⟩
             have q61 := (b6.cell (p := ⟨b, off, none⟩) hbW).trans q51
             have q62 := (b6.cell (p := ⟨b, off + 1, none⟩) hbW).trans q52))
        all_goals
          go_wp2_with (go_at_call 12; refine (awake1_any _).mono ?_; rintro e w' ⟨rfl, b7⟩)
          go_ret
          have hb8 := hbd.trans (b4.trans (b5.trans b6))
          exact ⟨rfl, by rw [HXX.out]; exact hm0.trans ((hb8.trans (b7.mono (by have := hb8.size; omega))).mono (by omega))⟩
      · have hg19 : l.length = 0 ∨ l.length = 8 ∨ (0 < l.length ∧ l.length < 8 ∧ s = -1) := by omega
        have HXX := Lib.hid hXX
        clear hcase hc0 hXX hs ha hbel hX0 hm0 hG hLl hXW
        generalize l.length = N at *
        rcases hg19 with h0 | h0 | ⟨h0, h1, h2⟩
        · subst h0
          go_wp2_with fail
          go_quiet (fail)
          go_wp2_with (go_at_call 12; refine (awake1_any _).mono ?_; rintro e w' ⟨rfl, b6⟩)
          go_ret
          exact ⟨rfl, by rw [HXX.out]; exact (bdrewN hbend _).trans (b6.mono hXle)⟩
        · subst h0
          go_wp2_with fail
          go_quiet (fail)
          go_wp2_with (go_at_call 12; refine (awake1_any _).mono ?_; rintro e w' ⟨rfl, b6⟩)
          go_ret
          exact ⟨rfl, by rw [HXX.out]; exact (bdrewN hbend _).trans (b6.mono hXle)⟩
        · subst h2
          have d1 : decide ((0 : Int) < (N : Int)) = true := by simp; omega
          have d2 : decide ((N : Int) < 8) = true := by simp; omega
          go_wp2_with fail
          go_quiet (fail)
          go_wp2_with (go_at_call 12; refine (awake1_any _).mono ?_; rintro e w' ⟨rfl, b6⟩)
          go_ret
          exact ⟨rfl, by rw [HXX.out]; exact (bdrewN hbend _).trans (b6.mono hXle)⟩
end Go.Proofs.Ytamgbeinmfgglaa
