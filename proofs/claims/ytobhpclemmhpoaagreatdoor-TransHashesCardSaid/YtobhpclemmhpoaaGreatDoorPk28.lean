/- Part 28 of what the statement wants. -/
import Derived.Test.YtobhpclemmhpoaaGreatDoorPk20
import Derived.Test.YtobhpclemmhpoaaGreatDoorPk27
namespace Go.Proofs.YtobhpclemmhpoaaGreatDoor
open Go.RowKit

set_option maxHeartbeats 4000000 in
set_option maxRecDepth 100000 in
theorem makes_kept {w0 w : World} {B A : Nat} {L0 : List Ent} {F0 : Nat → Prop} {v : Value} {l : List MakeR} (hM : MakesAt w0 v l) (h0 : Below w0.heap.size w0 w) (hB : w0.heap.size ≤ B) (ha : ArenaAt B A L0 F0 w) (hl : l.length ≤ 1000)
    (hs : ∀ x ∈ l, x.s.length ≤ 10000) (hok : ∀ k L ids texts, k ≤ l.length → MadeTo L0 (l.take k) L ids texts → MadeOk l L ids texts) :
    Calls Tryz.prog 10 #[.pointer (some ⟨A, 0, none⟩), v] w fun e w' => ∃ L ids texts vi vt F, MadeTo L0 l L ids texts ∧ e = .returned (.agg #[vi, vt]) ∧ IdsAt w' vi ids ∧ (Caps vi ∧ ∀ k, vi.ownBlock = some k → k < w'.heap.size ∧ ¬ F k) ∧ TextsAt w' vt (texts.map bs) ∧ (Caps vt ∧ ∀ k, vt.ownBlock = some k → k < w'.heap.size ∧ ¬ F k) ∧ ArenaAt B A L F w' ∧ Below B w w' ∧ Kept w w' ∧ ((∀ k, vi.ownBlock = some k → ∃ cur, Holds w' k 36 cur) ∧ ∀ k, vt.ownBlock = some k → ∃ cur, Holds w' k 9 cur) := by
  obtain ⟨ao, cap, rfl, hc⟩ := hM
  have hR := Holds.new w 47 #[.slice none 0 0, .slice none 0 0]
  obtain ⟨W1, hW1⟩ : ∃ W1, W1 = (w.alloc (.cells #[.slice none 0 0, .slice none 0 0] 47)).alloc (.cells #[.slice none 0 0, .slice none 0 0] 47) := ⟨_, rfl⟩
  have hB1 : Below w.heap.size w W1 := by rw [hW1]; exact ((Below.refl _ _).alloc (Nat.le_refl _) _).alloc (by simp) _
  have hR1 : Holds W1 w.heap.size 47 #[.slice none 0 0, .slice none 0 0] := by rw [hW1]; exact hR.moves ((Moves.refl nobody _).alloc _) (fun h => h)
  have hM1 : Holds W1 (w.heap.size + 1) 47 #[.slice none 0 0, .slice none 0 0] := by
    rw [hW1]
    have := Holds.new (w.alloc (.cells #[.slice none 0 0, .slice none 0 0] 47)) 47 #[.slice none 0 0, .slice none 0 0]
    rwa [World.size_alloc] at this
  have ha1 := ha.below hB1
  have hBw : B ≤ w.heap.size := by have := ha.lt A ha.self; omega
  obtain ⟨i0, hi, hz0, hz1, hz2⟩ := info_parts infoStr
  obtain ⟨j0, hj, hy0, hy1, hy2⟩ := info_parts info_id
  obtain ⟨R, hRr⟩ : ∃ R, R = w.heap.size := ⟨_, rfl⟩
  obtain ⟨M, hMm⟩ : ∃ M, M = w.heap.size + 1 := ⟨_, rfl⟩
  have HRr := Lib.hid hRr
  have HMm := Lib.hid hMm
  go_enter Tryz.func10, Tryz.ntmps10
  go_wp2_with fail
  rw [← hW1]
  rw [← hMm, ← hRr]
  rw [← hMm] at hM1
  rw [← hRr] at hR1
  have HB1 := Lib.hid hB1
  clear hW1 hR hRr hMm hB1
  go_loopw [6] (fun i wr => ∃ (k : Nat) (L : List Ent) (ids : List Int) (texts : List (List UInt8)) (vi vt : Value) (F : Nat → Prop), i = .int .i64 (k : Int) ∧ k ≤ l.length ∧ MadeTo L0 (l.take k) L ids texts ∧ ids.length = k ∧ texts.length = k ∧
    ArenaAt B A L F wr ∧ Holds wr R 47 #[.slice none 0 0, .slice none 0 0] ∧ Holds wr M 47 #[vi, vt] ∧ wr.ownsRow (M + 1) 36 1 vi k (idCells ids) ∧ (k = 0 → vi = .slice none 0 0) ∧ wr.ownsRow (M + 1) 9 1 vt k (strs (texts.map bs)) ∧ (k = 0 → vt = .slice none 0 0) ∧
    Below B w wr ∧ W1.heap.size ≤ wr.heap.size ∧ Kept w wr) (fun i _ => l.length - (intOf i).toNat)
  case atStart => exact ⟨0, L0, [], [], _, _, F0, rfl, Nat.zero_le _, MadeTo.nil, rfl, rfl, ha1, hR1, hM1, World.ownsRow_nil _ _ _ _, fun _ => rfl, World.ownsRow_nil _ _ _ _, fun _ => rfl, HB1.out.mono hBw, Nat.le_refl _, Kept.ofBelow HB1.out⟩
  case round =>
    obtain ⟨k, L, ids, texts, vi, vt, F, rfl, hk, hto, hil, htl, har, hr, hm, hri, hni, hrt, hnt, hbel, hsz, hkp⟩ := hrel
    by_cases hlt : k < l.length
    · obtain ⟨b, off, rfl, hb, hcell⟩ := hc (by intro h; simp [h] at hlt)
      obtain ⟨x, hx⟩ : ∃ x, x = l[k] := ⟨_, rfl⟩
      have hxc := hcell k x (by simp [hlt, hx])
      have h0w : Below w0.heap.size w0 wr := h0.trans (hbel.mono hB)
      have hok1 := hok k L ids texts hk hto
      have hxm : x ∈ l := by rw [hx]; exact List.getElem_mem hlt
      have HTo : Hid (∀ m, IdTo L ids texts x m → MadeTo L0 (l.take (k + 1)) m.2 (ids ++ [m.1]) (texts ++ [mtextP ids texts x])) := fun m hm => by
        rw [List.take_succ_eq_append_getElem hlt, ← hx]
        exact MadeTo.snoc hto hm
      have HId : Hid (∀ W, Below wr.heap.size wr W → Calls Tryz.prog 21 #[.agg #[vi, vt], .pointer (some ⟨A, 0, none⟩), makeV x] W fun e w' => ∃ m, IdTo L ids texts x m ∧ e = .returned (.int .i64 m.1) ∧ Left B A m.2 F W w') := fun W hW =>
        mid_any (har.below hW) hok1.few ((IdsAt.ofRow (by rw [hil]; exact hri) (fun e => hni (by rw [← hil, e]; rfl))).below hW) ((TextsAt.ofRow (by rw [List.length_map, htl]; exact hrt) (fun e => hnt (by rw [← htl, ← List.length_map (f := bs), e]; rfl))).below hW) (by omega) (by omega) x (hs x hxm)
      have HTx : Hid (∀ W, Moves F wr W → Calls Tryz.prog 22 #[.agg #[vi, vt], makeV x] W fun e w' => e = .returned (.string (bs (mtextP ids texts x))) ∧ Below W.heap.size W w') := fun W mW =>
        mtext_any (IdsAt.ofRow (by rw [hil]; exact owns_moves hri mW (har.ne_row hri (by decide) (by decide))) (fun e => hni (by rw [← hil, e]; rfl))) (TextsAt.ofRow (by rw [List.length_map, htl]; exact owns_moves hrt mW (har.ne_row hrt (by decide) (by decide))) (fun e => hnt (by rw [← htl, ← List.length_map (f := bs), e]; rfl))) (by omega) (by omega) hok1.short x (hs x hxm) (hok1.exps x hxm) hok1.raise
      have hMF := arena_ne har hm (by decide) (by decide)
      have hbF : ¬ F b := fun e => by have := (har.lt b e).1; omega
      have hml := hm.lt
      have hbl : b < wr.heap.size := by have := h0w.size; omega
      obtain ⟨xk, xa, xb, xc, xs⟩ := x
      simp only [makeV] at HId HTx hxc
      generalize bs xs = S at *
      have HK : Hid (∀ w', Moves F wr w' → w'.cell? ⟨M, 0, none⟩ = some vi ∧ w'.cell? ⟨M, 1, none⟩ = some vt ∧ w'.cell? ⟨b, off + k * 5, none⟩ = some (.int .i64 xk) ∧ w'.cell? ⟨b, off + k * 5 + 1, none⟩ = some (.int .i64 xa) ∧ w'.cell? ⟨b, off + k * 5 + 2, none⟩ = some (.int .i64 xb) ∧ w'.cell? ⟨b, off + k * 5 + 3, none⟩ = some (.int .i64 xc) ∧ w'.cell? ⟨b, off + k * 5 + 4, none⟩ = some (.string S)) := fun W mW =>
        ⟨(mW.cell (p := ⟨M, 0, none⟩) hml hMF).trans (hm.cell 0), (mW.cell (p := ⟨M, 1, none⟩) hml hMF).trans (hm.cell 1),
          ((mW.cell (p := ⟨b, off + k * 5, none⟩) hbl hbF).trans (h0w.cell (p := ⟨b, off + k * 5, none⟩) hb)).trans hxc.1,
          ((mW.cell (p := ⟨b, off + k * 5 + 1, none⟩) hbl hbF).trans (h0w.cell (p := ⟨b, off + k * 5 + 1, none⟩) hb)).trans hxc.2.1,
          ((mW.cell (p := ⟨b, off + k * 5 + 2, none⟩) hbl hbF).trans (h0w.cell (p := ⟨b, off + k * 5 + 2, none⟩) hb)).trans hxc.2.2.1,
          ((mW.cell (p := ⟨b, off + k * 5 + 3, none⟩) hbl hbF).trans (h0w.cell (p := ⟨b, off + k * 5 + 3, none⟩) hb)).trans hxc.2.2.2.1,
          ((mW.cell (p := ⟨b, off + k * 5 + 4, none⟩) hbl hbF).trans (h0w.cell (p := ⟨b, off + k * 5 + 4, none⟩) hb)).trans hxc.2.2.2.2⟩
      have mv0 : Moves F wr wr.drew := (Moves.refl F wr).drew
      have hb0 : Below wr.heap.size wr wr.drew := (Below.refl _ _).drew
      obtain ⟨y0, y1, y2, y3, y4, y5, y6⟩ := HK.out _ mv0
      have HAr := Lib.hid har
      have HRi := Lib.hid hri
      have HRt := Lib.hid hrt
      have HHm := Lib.hid hm
      have HHr := Lib.hid hr
      have HBe := Lib.hid hbel
      have HKp := Lib.hid hkp
      clear hcell hxc hx hto hok1 har hri hrt hm hr hbel hni hnt hc hkp
      generalize mtextP ids texts ⟨xk, xa, xb, xc, xs⟩ = Tx at *
      generalize hBT : bs Tx = T at *
      have HBT := Lib.hid hBT
      clear hBT
      go_wp2_with fail
      go_region_held3 (fun w' => w'.cell? ⟨M, 0, none⟩ = some vi ∧ w'.cell? ⟨M, 1, none⟩ = some vt ∧ w'.cell? ⟨b, off + k * 5, none⟩ = some (.int .i64 xk) ∧ w'.cell? ⟨b, off + k * 5 + 1, none⟩ = some (.int .i64 xa) ∧ w'.cell? ⟨b, off + k * 5 + 2, none⟩ = some (.int .i64 xb) ∧ w'.cell? ⟨b, off + k * 5 + 3, none⟩ = some (.int .i64 xc) ∧ w'.cell? ⟨b, off + k * 5 + 4, none⟩ = some (.string S))
        (first | with_reducible exact HK.out _ mv0 | with_reducible exact HK.out _ mvi | with_reducible exact HK.out _ mvt | with_reducible exact HK.out _ mv5 | go_keep)
        (first
          | (go_at_call 22; with_reducible refine (HTx.out _ mvi).mono ?_; rintro e W5 ⟨rfl, bt⟩; have hFin := left_down hLi2 bt; have mv5 := hFin.moves; obtain ⟨v0, v1, v2, v3, v4, v5, v6⟩ := HK.out _ mv5)
          | (go_at_call 22; with_reducible refine (HTx.out _ mv0).mono ?_; rintro e wt ⟨rfl, bt⟩; have hbt : Below wr.heap.size wr wt := hb0.trans (bt.mono hb0.size); have mvt : Moves F wr wt := Moves.ofBelow hbt; obtain ⟨u0, u1, u2, u3, u4, u5, u6⟩ := HK.out _ mvt)
          | (go_at_call 21; with_reducible refine (HId.out _ hbt).mono ?_; rintro e W5 ⟨m, hm, rfl, hLi⟩; have hFin := left_up hbt hLi; have mv5 := hFin.moves; obtain ⟨v0, v1, v2, v3, v4, v5, v6⟩ := HK.out _ mv5)
          | (go_at_call 21; with_reducible refine (HId.out _ hb0).mono ?_; rintro e wi ⟨m, hm, rfl, hLi⟩; have hLi2 := left_up hb0 hLi; have mvi := hLi2.moves; obtain ⟨z0, z1, z2, z3, z4, z5, z6⟩ := HK.out _ mvi))
      all_goals
        obtain ⟨F5, har5, _, hF5⟩ := hFin
        obtain ⟨mi, mL⟩ := m
        simp only at har5
        have hri5 := owns_moves HRi.out mv5 (HAr.out.ne_row HRi.out (by decide) (by decide))
        have hrt5 := owns_moves HRt.out mv5 (HAr.out.ne_row HRt.out (by decide) (by decide))
        have hm5 := HHm.out.moves mv5 hMF
        have hr5 := HHr.out.moves mv5 (arena_ne HAr.out HHr.out (by decide) (by decide))
        have hm5l := hm5.lt
        have HMv := Lib.hid mv5
        have Hhm := Lib.hid hm
        have HA5 := Lib.hid har5
        have HR5 := Lib.hid hr5
        have HM5 := Lib.hid hm5
        have HI5 := Lib.hid hri5
        have HT5 := Lib.hid hrt5
        clear mv5 hF5 hm har5 hr5
        go_wp2_with (first
          | (at_builtin; refine wpList_append_own _ rfl _ _ 45 rfl (M + 1) 9 i0 (.string ⟨#[]⟩) 1 16 Tryz.underlying45 hi hz0 hz1 hz2 rfl (by decide) _ _ _ rfl (hrt7.alloc _) ⟨W6.heap.size, 0, none⟩ 1 1 [.string T] rfl rfl hc7 (str_one T) (by unfold maxLen; omega) (by omega) (by simp; omega) ?_; intro v2 W8 hown2 hg2 hnn2; obtain ⟨p2, n2, c2, rfl⟩ := row_slice hown2; have mv8 : Moves (fun i => vt.ownBlock = some i) (W6.setCell ⟨M, 0, none⟩ (.slice p1 n1 c1)) W8 := ((Moves.refl (fun i => vt.ownBlock = some i) (W6.setCell ⟨M, 0, none⟩ (.slice p1 n1 c1))).alloc _).grown hg2 (fun _ hi => .inl hi); have hm8 := hm7.moves mv8 (own_ne hrt7 hm7 (by decide)); have b1 := hm8.cell 1; have g1 := hm8.frozen 1)
          | (at_builtin; refine wpList_append_own _ rfl _ _ 44 rfl (M + 1) 36 j0 _ 1 8 Tryz.underlying44 hj hy0 hy1 hy2 rfl (by decide) _ _ _ rfl (hri5.alloc _) ⟨W5.heap.size, 0, none⟩ 1 1 [.int .i64 mi] rfl rfl (cell_one_new _ _ _) (id_one mi) (by unfold maxLen; omega) (by omega) (by simp; omega) ?_; intro v1 W6 hown1 hg1 hnn1; obtain ⟨p1, n1, c1, rfl⟩ := row_slice hown1; have mv6 : Moves (fun i => vi.ownBlock = some i) W5 W6 := ((Moves.refl (fun i => vi.ownBlock = some i) W5).alloc _).grown hg1 (fun _ hi => .inl hi); have hm6 := hm5.moves mv6 (own_ne hri5 hm5 (by decide)); have b0 := hm6.cell 0; have g0 := hm6.frozen 0; have hm7 := Holds.set hm6 0 (.slice p1 n1 c1); have d1 := hm7.cell 1; have hrt6 := World.ownsRow.kept (hrt5.alloc _) hg1 (rows_apart hrt5 hri5 (by decide)); have mv7 : Moves (fun i => i = M) W6 (W6.setCell ⟨M, 0, none⟩ (.slice p1 n1 c1)) := (Moves.refl (fun i => i = M) W6).setCell (p := ⟨M, 0, none⟩) (.inl rfl) (.slice p1 n1 c1); have hrt7 := owns_moves hrt6 mv7 (fun i hi e => own_ne hrt6 hm6 (by decide) (e ▸ hi)); have hm6l := hm6.lt; have hs7 : (W6.setCell ⟨M, 0, none⟩ (.slice p1 n1 c1)).heap.size = W6.heap.size := (by simp [World.setCell]); have hc7 := cell_one_new (W6.setCell ⟨M, 0, none⟩ (.slice p1 n1 c1)) (.string T) 9; rw [hs7] at hc7)
          | go_in)
        have mv9 : Moves (fun i => i = M) W8 (W8.setCell ⟨M, 1, none⟩ (.slice p2 n2 c2)) := (Moves.refl (fun i => i = M) W8).setCell (p := ⟨M, 1, none⟩) (.inl rfl) (.slice p2 n2 c2)
        have hm9 := Holds.set hm8 1 (.slice p2 n2 c2)
        have hid7 := owns_moves hown1 mv7 (fun i hi e => own_ne hown1 hm6 (by decide) (e ▸ hi))
        have hid8 := World.ownsRow.kept (hid7.alloc _) hg2 (rows_apart hid7 hrt7 (by decide))
        have hid9 := owns_moves hid8 mv9 (fun i hi e => own_ne hid8 hm8 (by decide) (e ▸ hi))
        have htx9 := owns_moves hown2 mv9 (fun i hi e => own_ne hown2 hm8 (by decide) (e ▸ hi))
        have mvA : Moves (fun i => i = M ∨ vi.ownBlock = some i ∨ vt.ownBlock = some i) W5 (W8.setCell ⟨M, 1, none⟩ (.slice p2 n2 c2)) :=
          (((mv6.mono fun _ h _ => .inr (.inl h)).trans mv7 fun _ h => .inl (.inl h)).trans mv8 fun _ h => .inl (.inr (.inr h))).trans mv9 fun _ h => .inl (.inl h)
        have har9 := HA5.out.moves mvA (by
          rintro i hFi (h | h | h)
          · exact arena_ne HA5.out HM5.out (by decide) (by decide) (h ▸ hFi)
          · exact HA5.out.ne_row HI5.out (by decide) (by decide) i h hFi
          · exact HA5.out.ne_row HT5.out (by decide) (by decide) i h hFi)
        have hRM : R + 1 = M := by rw [HRr.out, HMm.out]
        have hBR : B ≤ R := by rw [HRr.out]; exact hBw
        have hr9 := HR5.out.moves mvA (by
          rintro (h | h | h)
          · omega
          · have := (HI5.out.lt R h).1; omega
          · have := (HT5.out.lt R h).1; omega)
        have hb9 := (HBe.out.trans (HMv.out.below (B := B) (by omega) (fun i h => (HAr.out.lt i h).1))).trans (mvA.below (B := B) (by omega) (by
          rintro i (h | h | h)
          · omega
          · have := (HI5.out.lt i h).1; omega
          · have := (HT5.out.lt i h).1; omega))
        have hs9 : W1.heap.size ≤ (W8.setCell ⟨M, 1, none⟩ (.slice p2 n2 c2)).heap.size := Nat.le_trans hsz (Nat.le_trans HMv.out.size mvA.size)
        have hkp9 : Kept w (W8.setCell ⟨M, 1, none⟩ (.slice p2 n2 c2)) := ⟨Nat.le_trans HKp.out.size (Nat.le_trans HMv.out.size mvA.size), fun g t cs h1 h2 h3 => ((Kept.ofMoves HAr.out HMv.out).hold g t cs h1 h2 (HKp.out.hold g t cs h1 h2 h3)).moves mvA (by
          have hg := h3.lt
          have hMw := HMm.out
          rintro (h | h | h)
          · omega
          · have := (HI5.out.lt g h).1; omega
          · have := (HT5.out.lt g h).1; omega)⟩
        have HX := Lib.hid hb9
        go_roundw
        case rel => exact ⟨k + 1, mL, ids ++ [mi], texts ++ [Tx], _, _, F5, by go_num, by omega, HTo.out _ Hhm.out, by simp [hil], by simp [htl], har9, hr9, hm9, by rw [idCells_snoc]; exact hid9, fun e => by omega, by rw [List.map_append, List.map_cons, List.map_nil, HBT.out, strs_snoc]; exact htx9, fun e => by omega, hb9, hs9, hkp9⟩
        case measure => simp [intOf]; omega
    · have hkl : k = l.length := by omega
      subst hkl
      rw [List.take_length] at hto
      have hIx := IdsAt.ofRow (l := ids) (by rw [hil]; exact hri) (fun e => hni (by rw [← hil, e]; rfl))
      have hTx := TextsAt.ofRow (l := texts.map bs) (by rw [List.length_map, htl]; exact hrt) (fun e => hnt (by rw [← htl, ← List.length_map (f := bs), e]; rfl))
      obtain ⟨a1, n1, c1, rfl⟩ := row_slice hri
      obtain ⟨a2, n2, c2, rfl⟩ := row_slice hrt
      have m0 := hm.cell 0
      have m1 := hm.cell 1
      have r0 := hr.cell 0
      have r1 := hr.cell 1
      have s0 := hr.frozen 0
      have s1 := hr.frozen 1
      have mf : Moves (fun i => i = R) wr _ := ((Moves.refl (fun i => i = R) wr).setCell (p := ⟨R, 0, none⟩) (.inl rfl) (.slice a1 n1 c1)).setCell (p := ⟨R, 1, none⟩) (.inl rfl) (.slice a2 n2 c2)
      have hRf := Holds.set (Holds.set hr 0 (.slice a1 n1 c1)) 1 (.slice a2 n2 c2)
      have hRF := arena_ne har hr (by decide) (by decide)
      have hBR : B ≤ R := by rw [HRr.out]; exact hBw
      have hrl := hr.lt
      have HX : Hid (∃ L ids texts vi vt F, MadeTo L0 l L ids texts ∧ Ending.returned (.agg #[.slice a1 n1 c1, .slice a2 n2 c2]) = .returned (.agg #[vi, vt]) ∧ IdsAt ((wr.setCell ⟨R, 0, none⟩ (.slice a1 n1 c1)).setCell ⟨R, 1, none⟩ (.slice a2 n2 c2)) vi ids ∧ (Caps vi ∧ ∀ k, vi.ownBlock = some k → k < (((wr.setCell ⟨R, 0, none⟩ (.slice a1 n1 c1)).setCell ⟨R, 1, none⟩ (.slice a2 n2 c2))).heap.size ∧ ¬ F k) ∧ TextsAt ((wr.setCell ⟨R, 0, none⟩ (.slice a1 n1 c1)).setCell ⟨R, 1, none⟩ (.slice a2 n2 c2)) vt (texts.map bs) ∧ (Caps vt ∧ ∀ k, vt.ownBlock = some k → k < (((wr.setCell ⟨R, 0, none⟩ (.slice a1 n1 c1)).setCell ⟨R, 1, none⟩ (.slice a2 n2 c2))).heap.size ∧ ¬ F k) ∧ ArenaAt B A L F ((wr.setCell ⟨R, 0, none⟩ (.slice a1 n1 c1)).setCell ⟨R, 1, none⟩ (.slice a2 n2 c2)) ∧ Below B w ((wr.setCell ⟨R, 0, none⟩ (.slice a1 n1 c1)).setCell ⟨R, 1, none⟩ (.slice a2 n2 c2)) ∧ Kept w ((wr.setCell ⟨R, 0, none⟩ (.slice a1 n1 c1)).setCell ⟨R, 1, none⟩ (.slice a2 n2 c2)) ∧ ((∀ k, vi.ownBlock = some k → ∃ cur, Holds ((wr.setCell ⟨R, 0, none⟩ (.slice a1 n1 c1)).setCell ⟨R, 1, none⟩ (.slice a2 n2 c2)) k 36 cur) ∧ ∀ k, vt.ownBlock = some k → ∃ cur, Holds ((wr.setCell ⟨R, 0, none⟩ (.slice a1 n1 c1)).setCell ⟨R, 1, none⟩ (.slice a2 n2 c2)) k 9 cur)) := by
        refine ⟨L, ids, texts, _, _, F, hto, rfl, ?_, ⟨row_caps hri, fun k hk => ⟨Nat.lt_of_lt_of_le (hri.lt k hk).2 mf.size, har.ne_row hri (by decide) (by decide) k hk⟩⟩, ?_, ⟨row_caps hrt, fun k hk => ⟨Nat.lt_of_lt_of_le (hrt.lt k hk).2 mf.size, har.ne_row hrt (by decide) (by decide) k hk⟩⟩, har.moves mf (fun i hi e => hRF (e ▸ hi)), hbel.trans (mf.below (by omega) (fun i hi => by omega)), ⟨Nat.le_trans hkp.size mf.size, fun g t cs h1 h2 h3 => (hkp.hold g t cs h1 h2 h3).moves mf (fun e => by have hg := h3.lt; have hRw := HRr.out; omega)⟩, row_type6 (owns_moves hri mf (fun i hi e => by have := (hri.lt i hi).1; rw [HMm.out] at this; rw [e, HRr.out] at this; omega)), row_type6 (owns_moves hrt mf (fun i hi e => by have := (hrt.lt i hi).1; rw [HMm.out] at this; rw [e, HRr.out] at this; omega))⟩
        · exact IdsAt.ofRow (by rw [hil]; exact owns_moves hri mf (fun i hi e => by have := (hri.lt i hi).1; rw [HMm.out] at this; rw [e, HRr.out] at this; omega)) (fun e => hni (by rw [← hil, e]; rfl))
        · exact TextsAt.ofRow (by rw [List.length_map, htl]; exact owns_moves hrt mf (fun i hi e => by have := (hrt.lt i hi).1; rw [HMm.out] at this; rw [e, HRr.out] at this; omega)) (fun e => hnt (by rw [← htl, ← List.length_map (f := bs), e]; rfl))
      clear hIx hTx mf hto har hri hrt hni hnt hbel hil htl hc hm hr hkp
      go_wp2_with fail
      refine bodyPost_ret (v := .agg #[.slice a1 n1 c1, .slice a2 n2 c2]) ?_ rfl HX.out
      exact results_cell_row rfl _ _ R _ _ (0, 0) _ rfl hRf Tryz.underlying47 rfl (by kernel_rfl)
end Go.Proofs.YtobhpclemmhpoaaGreatDoor

namespace Go.Proofs.YtobhpclemmhpoaaGreatDoor
open Go.RowKit

theorem makes_below20 {w W0 : World} {v : Value} {l : List MakeR} (hM : MakesAt w v l) (b0 : Below w.heap.size w W0) : MakesAt W0 v l := by
  obtain ⟨ao, cap, rfl, hc⟩ := hM
  refine ⟨ao, cap, rfl, fun hne => ?_⟩
  obtain ⟨b, off, e1, hb, h⟩ := hc hne
  refine ⟨b, off, e1, Nat.lt_of_lt_of_le hb b0.size, fun k x hk => ?_⟩
  obtain ⟨c0, c1, c2, c3, c4⟩ := h k x hk
  exact ⟨(b0.cell (p := ⟨b, off + k * 5, none⟩) hb).trans c0, (b0.cell (p := ⟨b, off + k * 5 + 1, none⟩) hb).trans c1, (b0.cell (p := ⟨b, off + k * 5 + 2, none⟩) hb).trans c2, (b0.cell (p := ⟨b, off + k * 5 + 3, none⟩) hb).trans c3, (b0.cell (p := ⟨b, off + k * 5 + 4, none⟩) hb).trans c4⟩
theorem arena_down20 {B B2 A : Nat} {L : List Ent} {F : Nat → Prop} {w : World} (h : ArenaAt B A L F w) (hB : B2 ≤ B) : ArenaAt B2 A L F w := by
  obtain ⟨mb, tv, h1, h2, h3, h4, h5, h6, h7⟩ := h
  exact ⟨mb, tv, h1, owns_lower h2 hB, h3, by omega, by omega, h6, h7⟩
theorem ta_down20 {w0 W W' : World} {A n : Nat} {P : List (Int × List UInt8)} (hb : Below w0.heap.size w0 W) (h : Ta W.heap.size W A P n W') : Ta w0.heap.size w0 A P n W' := by
  obtain ⟨⟨L, F, ha, h1⟩, h2⟩ := h
  exact ⟨⟨L, F, arena_down20 ha hb.size, h1⟩, hb.trans (h2.mono hb.size)⟩
/-- The harness makes terms, beside their texts; rows beside the arena stay. -/
theorem taMakesK20 {w w0 W : World} {B A : Nat} {v : Value} {l : List MakeR} (hM : MakesAt w v l) (h0 : Below w.heap.size w w0) (hB : w.heap.size ≤ B) (ha : Ta B w0 A [] 0 W) (hl : l.length ≤ 1000) (hs : ∀ x ∈ l, x.s.length ≤ 10000) :
    Calls Tryz.prog 10 #[.pointer (some ⟨A, 0, none⟩), v] W fun e w' => ∃ (ids : List Int) (texts : List (List UInt8)) (ai : Option Addr) (ci : Nat) (at' : Option Addr) (ct : Nat), e = .returned (.agg #[.slice ai l.length ci, .slice at' l.length ct]) ∧
      (ids.length = l.length ∧ texts.length = l.length) ∧ IdsAt w' (.slice ai l.length ci) ids ∧ TextsAt w' (.slice at' l.length ct) (texts.map bs) ∧ Ta B w0 A (ids.zip texts) l.length w' ∧ Kept W w' := by
  obtain ⟨⟨L, F, har, hG, hL, _⟩, hb⟩ := ha
  have hL0 : L = [] := List.eq_nil_of_length_eq_zero (by omega)
  subst hL0
  refine (makes_kept hM (h0.trans (hb.mono hB)) hB har hl hs (made_ok hl)).mono ?_
  rintro e w' ⟨L, ids, texts, vi, vt, F2, hto, rfl, ⟨ai, ci, rfl, hI⟩, _, ⟨at', ct, rfl, hT⟩, _, har2, b2, hkp, _⟩
  have hln := hto.lens
  have hA := hto.all exp_same (by omega)
  have e1 : ids.length = l.length := hln.1
  have e2 : (texts.map bs).length = l.length := by rw [List.length_map]; exact hln.2
  refine ⟨ids, texts, ai, ci, at', ct, by rw [List.length_map, hln.1, hln.2], hln, ?_, ?_, ⟨⟨L, F2, har2, hA.good, hA.few, fun p hp => ?_⟩, hb.trans b2⟩, hkp⟩
  · rw [← hln.1]; exact ⟨ai, ci, rfl, hI⟩
  · rw [← hln.2, ← List.length_map (f := bs)]; exact ⟨at', ct, rfl, hT⟩
  · obtain ⟨k, hk⟩ := List.mem_iff_getElem?.1 hp
    obtain ⟨h1, h2⟩ := List.getElem?_zip_eq_some.1 hk
    exact hA.pairs.at_ k _ _ h1 h2
end Go.Proofs.YtobhpclemmhpoaaGreatDoor
