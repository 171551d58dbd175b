/- Layer 13: the law StreamPieces, walked. -/
import Derived.Test.YtlalkpgipenkaaaSxA
namespace Go.Proofs.Ytlalkpgipenkaaa
open Go.RowKit

set_option maxHeartbeats 4000000 in
set_option maxRecDepth 100000 in
theorem StreamPieces_small (s : List UInt8) (hs : s.length ≤ 2000) (z : List UInt8) (hz : z.length ≤ 20) (v : Value) (w : World) (hv : Bytes13 w v z) :
    Calls Try.prog 4 #[.string (bs s), v] w fun e w' => e = .returned (.bool true) ∧ Below w.heap.size w w' := by
  have hsz := bs_size s
  obtain ⟨ao, cap, rfl, hc⟩ := hv
  have q1 : decide ((s.length : Int) > 2000) = false := decide_eq_false (by omega)
  have q2 : decide ((z.length : Int) > 20) = false := decide_eq_false (by omega)
  have HA := Lib.hid (fun W => awake13_any W)
  have HN1 := Lib.hid (fun W => xNew_any W)
  have HCut : Hid (∀ a b, a ≤ b → b ≤ s.length → ∀ W, (Instr.slice 9 (.string (bs s)) (some (.int .i64 (a : Int))) (some (.int .i64 (b : Int))) none).run Try.prog W = .ok (.string (bs ((s.take b).drop a))) W) := fun a b h1 h2 W => stSlice s a b h1 h2 W
  have HF : Hid (∀ (w1 w2 : World), StAt w.heap.size w.heap.size [] 0 (fun k => k = w.heap.size) w1 → Below w.heap.size w w1 → StAt w1.heap.size w1.heap.size [] 0 (fun k => k = w1.heap.size) w2 → Below w1.heap.size w1 w2 →
      Calls Try.prog 9 #[.pointer (some ⟨w.heap.size, 0, none⟩), .string (bs s)] w2 fun r w' => r = .returned (.tuple #[]) ∧ ∃ Fx, PcAt w.heap.size w.heap.size w1.heap.size s Fx [] 0 (.slice none 0 0) [] w w') := fun w1 w2 h1 b1 h2 b2 => by
    have h1' := h1.moves (Moves.ofBelow (S := nobody) b2) (fun _ _ h => h)
    have hlt := (h1.lt w.heap.size rfl).2
    refine (xFeed_any h1' s (by simp; omega)).mono fun r w' ⟨e1, F', a1, m1, f1⟩ => ⟨e1, F', ?_⟩
    rw [if_pos rfl, List.nil_append] at a1
    obtain ⟨u, u1, u2, u3, u4⟩ := h2
    have y2 : StAt w.heap.size w1.heap.size [] 0 (fun k => k = w1.heap.size) w2 := ⟨u, u1, by
      rcases u2 with u2 | ⟨g, off, cap, cur, e1, hb, rest⟩
      · exact .inl u2
      · exact .inr ⟨g, off, cap, cur, e1, by have := b1.size; omega, rest⟩, b1.size, u4⟩
    have y3 := y2.moves m1 (fun k hk hk2 => by subst hk; omega)
    refine ⟨a1, ⟨fun k => k = w1.heap.size, ⟨_, y3, World.ownsRow_nil w' w.heap.size 9 1, by funext k; simp [Value.ownBlock]⟩, fun k hk hx => ?_⟩, ?_⟩
    · subst hk
      rcases f1 _ hx with h | h
      · omega
      · have := b2.size; have := u1.lt; omega
    · exact (b1.trans (b2.mono b1.size)).trans (m1.below (by have := b1.size; have := b2.size; omega) (fun k hk => by subst hk; exact Nat.le_refl _))
  have hle : (bs s).size ≤ 2000 := by omega
  have HC := Lib.hid hc
  obtain ⟨S, hS⟩ : ∃ S, S = bs s := ⟨_, rfl⟩
  rw [← hS] at HF HCut hle hsz ⊢
  clear hc hS
  go_enter Try.func4, Try.ntmps4
  go_wp2_with (first
    | (go_at_call 8; (with_reducible refine (HN1.out w).mono ?_); rintro r w1 ⟨rfl, h1, b1⟩)
    | (go_at_call 8; (with_reducible refine (HN1.out _).mono ?_); rintro r w2 ⟨rfl, h2, b2⟩; have HF2 := Lib.hid (HF.out w1 w2 h1 b1 h2 b2))
    | (go_at_call 9; (with_reducible refine HF2.out.mono ?_); rintro r w3 ⟨rfl, Fx, hp⟩; have HP := Lib.hid hp; clear hp))
  obtain ⟨Y, hY⟩ : ∃ Y, Y = w1.heap.size := ⟨_, rfl⟩
  rw [← hY] at HP ⊢
  clear HF HF2 HN1 h1 h2 b1 b2 hY
  go_loopw [8, 9, 10, 11] (fun b ln fr i wr => ∃ (f k : Nat) (its : List (List UInt8)) (lined : Bool) (l : List UInt8) (e : Nat), f ≤ s.length ∧ k ≤ f ∧ fr = .int .i64 f ∧ i = .int .i64 k ∧ ln = .bool lined ∧ drainP false (s.take f) 0 = (its, lined, l, e) ∧ PcAt w.heap.size w.heap.size Y s Fx l e b its w wr) (fun _ _ fr _ _ => s.length - (intOf fr).toNat)
  case atStart => exact ⟨0, 0, [], false, [], 0, Nat.zero_le _, Nat.zero_le _, rfl, rfl, rfl, by rw [List.take_zero]; decide, HP.out⟩
  case round =>
    clear HP
    obtain ⟨f, k, its, lined, l, e, hf, hk, rfl, rfl, rfl, hd, hp⟩ := hrel
    obtain ⟨bo, bc, rfl⟩ := hp.form
    have q3 : decide ((k : Int) ≤ (s.length : Int)) = true := decide_eq_true (by omega)
    by_cases hlt : f < s.length
    · have q4 : decide ((f : Int) < (s.length : Int)) = true := decide_eq_true (by omega)
      by_cases hz0 : z.length = 0
      · have q5 : decide (0 < z.length) = false := decide_eq_false (by omega)
        obtain ⟨t, ht⟩ : ∃ t, t = min (f + 1) s.length := ⟨_, rfl⟩
        have hm : min ((f : Int) + 1) (s.length : Int) = (t : Int) := by omega
        have hft : f < t := by omega
        have hts : t ≤ s.length := by omega
        have HNx := pc_next hs (Nat.le_of_lt hft) hd
        have hll := pc_left hd
        have hnn := pc_many hd
        have hct := HCut.out f t (Nat.le_of_lt hft) hts
        have hpl : ((s.take t).drop f).length ≤ t - f := by rw [List.length_drop, List.length_take]; omega
        have hB : w.heap.size ≤ wr.heap.size := hp.bel.size
        have HFd := Lib.hid (hp.feed hB ((s.take t).drop f) (by omega))
        have hL : (if e = 0 then l ++ (s.take t).drop f else l).length ≤ 2000 := by
          split
          · rw [List.length_append]; omega
          · omega
        generalize (if e = 0 then l ++ (s.take t).drop f else l) = L at *
        have HDr : Hid (∀ W, PcAt w.heap.size w.heap.size Y s Fx L e (.slice bo its.length bc) its w W → Calls Try.prog 19 #[.pointer (some ⟨Y, 0, none⟩), .slice bo its.length bc, .bool lined] W fun r w' => ∃ v', r = .returned (.tuple #[v', .bool (drainP lined L e).2.1]) ∧ PcAt w.heap.size w.heap.size Y s Fx (drainP lined L e).2.2.1 (drainP lined L e).2.2.2 v' (its ++ (drainP lined L e).1) w w') := fun W h => h.drain h.bel.size hL (by omega) lined
        generalize drainP lined L e = D at *
        obtain ⟨its2, lined2, l2, e2⟩ := D
        simp only at HDr HNx
        have HNx := Lib.hid HNx
        obtain ⟨T, hT⟩ : ∃ T, T = bs ((s.take t).drop f) := ⟨_, rfl⟩
        rw [← hT] at hct HFd
        clear hT hpl hL hll hnn hd hp hB ht HCut HC
        generalize its.length = m at *
        clear hz0
        go_wp2_with (first
          | (go_at_call 9; (with_reducible refine HFd.out.mono ?_); rintro r w4 ⟨rfl, h4⟩; have HD4 := Lib.hid (HDr.out _ h4); clear h4)
          | (go_at_call 19; (with_reducible refine HD4.out.mono ?_); rintro r w5 ⟨v5, rfl, h5⟩; have H5 := Lib.hid h5; clear h5))
        go_roundw
        case rel => exact ⟨t, k + 1, _, lined2, l2, e2, hts, by omega, rfl, by go_num, rfl, HNx.out, H5.out⟩
        case measure => simp [intOf]; omega
      · have q5 : decide (0 < z.length) = true := decide_eq_true (by omega)
        obtain ⟨bz, oz, rfl, hbz, hcz⟩ := HC.out (by intro h; rw [h] at hz0; exact hz0 rfl)
        obtain ⟨j, hj⟩ : ∃ j, j = k % z.length := ⟨_, rfl⟩
        have hjl : j < z.length := by rw [hj]; exact Nat.mod_lt _ (by omega)
        have hjm : (k : Int) % (z.length : Int) = (j : Int) := by rw [hj]; simp
        obtain ⟨x, hx⟩ : ∃ x, z[j]? = some x := ⟨z[j], List.getElem?_eq_getElem hjl⟩
        have cz := (hp.bel.cell (p := ⟨bz, oz + j, none⟩) hbz).trans (hcz j x hx)
        have hxl := UInt8.toNat_lt x
        clear hx hj hcz
        obtain ⟨t, ht⟩ : ∃ t, t = min (f + (1 + x.toNat)) s.length := ⟨_, rfl⟩
        have hm : min ((f : Int) + (1 + (x.toNat : Int))) (s.length : Int) = (t : Int) := by omega
        have hft : f < t := by omega
        have hts : t ≤ s.length := by omega
        have HNx := pc_next hs (Nat.le_of_lt hft) hd
        have hll := pc_left hd
        have hnn := pc_many hd
        have hct := HCut.out f t (Nat.le_of_lt hft) hts
        have hpl : ((s.take t).drop f).length ≤ t - f := by rw [List.length_drop, List.length_take]; omega
        have hB : w.heap.size ≤ wr.heap.size := hp.bel.size
        have HFd := Lib.hid (hp.feed hB ((s.take t).drop f) (by omega))
        have hL : (if e = 0 then l ++ (s.take t).drop f else l).length ≤ 2000 := by
          split
          · rw [List.length_append]; omega
          · omega
        generalize (if e = 0 then l ++ (s.take t).drop f else l) = L at *
        have HDr : Hid (∀ W, PcAt w.heap.size w.heap.size Y s Fx L e (.slice bo its.length bc) its w W → Calls Try.prog 19 #[.pointer (some ⟨Y, 0, none⟩), .slice bo its.length bc, .bool lined] W fun r w' => ∃ v', r = .returned (.tuple #[v', .bool (drainP lined L e).2.1]) ∧ PcAt w.heap.size w.heap.size Y s Fx (drainP lined L e).2.2.1 (drainP lined L e).2.2.2 v' (its ++ (drainP lined L e).1) w w') := fun W h => h.drain h.bel.size hL (by omega) lined
        generalize drainP lined L e = D at *
        obtain ⟨its2, lined2, l2, e2⟩ := D
        simp only at HDr HNx
        have HNx := Lib.hid HNx
        obtain ⟨T, hT⟩ : ∃ T, T = bs ((s.take t).drop f) := ⟨_, rfl⟩
        rw [← hT] at hct HFd
        clear hT hpl hL hll hnn hd hp hB ht HCut HC
        generalize its.length = m at *
        generalize x.toNat = xn at *
        clear hz0
        generalize z.length = zl at *
        go_wp2_with (first
          | (go_at_call 9; (with_reducible refine HFd.out.mono ?_); rintro r w4 ⟨rfl, h4⟩; have HD4 := Lib.hid (HDr.out _ h4); clear h4)
          | (go_at_call 19; (with_reducible refine HD4.out.mono ?_); rintro r w5 ⟨v5, rfl, h5⟩; have H5 := Lib.hid h5; clear h5))
        go_roundw
        case rel => exact ⟨t, k + 1, _, lined2, l2, e2, hts, by omega, rfl, by go_num, rfl, HNx.out, H5.out⟩
        case measure => simp [intOf]; omega
    · have hfl : f = s.length := by omega
      subst hfl
      have q4 : decide ((s.length : Int) < (s.length : Int)) = false := decide_eq_false (by omega)
      rw [List.take_length] at hd
      have HLs := Lib.hid (hp.last hp.bel.size hs hd)
      have hmany := pc_many hd
      clear hd hp HC HCut
      generalize hbm : its.length = m at *
      have HMm := Lib.hid hbm
      clear hbm
      generalize l.length = ll at *
      go_wp2_with (first
        | (go_at_call 19; (with_reducible refine HLs.out.mono ?_); rintro r w4 ⟨ga, ca, rfl, h4⟩; have H4 := Lib.hid h4; obtain ⟨⟨G1, g1⟩, ⟨G2, g2⟩, -⟩ := h4; have HXl := Lib.hid g1.left; have HXb := Lib.hid g1.broken; have HYl := Lib.hid g2.left; have HYb := Lib.hid g2.broken; clear g1 g2)
        | (go_at_call 17; (with_reducible refine HXl.out.mono ?_); rintro r w' ⟨rfl, hw⟩; have hw := hw.symm; subst hw)
        | (go_at_call 17; (with_reducible refine HYl.out.mono ?_); rintro r w' ⟨rfl, hw⟩; have hw := hw.symm; subst hw)
        | (go_at_call 18; (with_reducible refine HXb.out.mono ?_); rintro r w' ⟨rfl, hw⟩; have hw := hw.symm; subst hw)
        | (go_at_call 18; (with_reducible refine HYb.out.mono ?_); rintro r w' ⟨rfl, hw⟩; have hw := hw.symm; subst hw))
      go_loopw [14] (fun i wq => ∃ j : Nat, j ≤ m ∧ i = .int .i64 j ∧ Hid (PcEnd w.heap.size w.heap.size Y l e (.slice ga m ca) (.slice bo m bc) its w wq)) (fun i _ => m - (intOf i).toNat)
      case atStart => exact ⟨0, Nat.zero_le _, rfl, H4⟩
      case round =>
        clear HXl HXb HYl HYb H4 HLs
        obtain ⟨j, hj, rfl, HE⟩ := hrel
        by_cases hjl : j < m
        · obtain ⟨x, hx⟩ : ∃ x, its[j]? = some x := ⟨its[j]'(by rw [HMm.out]; exact hjl), List.getElem?_eq_getElem _⟩
          obtain ⟨⟨G1, g1⟩, ⟨G2, g2⟩, -⟩ := HE.out
          obtain ⟨b1, rfl, c1⟩ := g1.cell hx
          obtain ⟨b2, rfl, c2⟩ := g2.cell hx
          have HD := Lib.hid (fun n => HE.out.drewN n)
          have qT : ((bs x).toList == (bs x).toList) = true := beq_self_eq_true _
          clear g1 g2 hx HE
          generalize bs x = T at *
          go_wp2_with fail
          go_quiet (fail)
          go_wp2_with fail
          go_roundw
          case rel => exact ⟨j + 1, by omega, by go_num, Lib.hid (HD.out _)⟩
          case measure => simp [intOf]; omega
        · have hje : j = m := by omega
          subst hje
          have HB := Lib.hid HE.out.bel
          clear HE hjl
          go_wp2_with (go_at_call 7; (with_reducible refine (HA.out _).mono ?_); rintro r w6 ⟨rfl, b6⟩)
          go_ret
          exact ⟨rfl, HB.out.trans (b6.mono HB.out.size)⟩
end Go.Proofs.Ytlalkpgipenkaaa
