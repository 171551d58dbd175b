/- Part 43 of what the statement wants. -/
import Derived.Test.YtkigohenfaomkaaGreatPk35
import Derived.Test.YtkigohenfaomkaaGreatPk42
namespace Go.Proofs.YtkigohenfaomkaaGreat
open Go.RowKit

set_option maxHeartbeats 4000000 in
set_option maxRecDepth 100000 in
theorem recipe_main {w : World} {v vo : Value} {l : List MakeR} {ops : List OpR} {n : Nat} (hM : MakesAt w v l) (hl : l.length ≤ 15) (hls : ∀ x ∈ l, x.s.length ≤ 200) (hO : OpsAt w vo ops) (hol : ops.length ≤ 70) (hos : ∀ x ∈ ops, x.s.length ≤ 200) (hn : n ≤ l.length) :
    Calls Tryz.prog 3 #[v, .int .i64 (n : Int), vo] w fun e w' => e = .returned (.bool true) ∧ Below w.heap.size w w' := by
  have hF1 := few_any hM 15 (fun x hx => by have := hls x hx; omega) (by omega)
  rw [show fewP l 15 = true from decide_eq_true ⟨by omega, hls⟩] at hF1
  have hF2 := few14_any hO (fun x hx => by have := hos x hx; omega) (by omega)
  rw [show fewP14 ops = true from decide_eq_true ⟨hol, hos⟩] at hF2
  have HF1 := Lib.hid hF1
  have HF2 := Lib.hid hF2
  have HMk : Hid (∀ (A : Nat) (F : Nat → Prop) (w1 : World), ArenaAt w.heap.size A [] F w1 → Below w.heap.size w w1 → Calls Tryz.prog 8 #[.pointer (some ⟨A, 0, none⟩), v] w1 fun e w' => ∃ L ids texts ai ci at' ct F2, MadeTo [] l L ids texts ∧ e = .returned (.agg #[.slice ai l.length ci, .slice at' l.length ct]) ∧
      IdsAt w' (.slice ai l.length ci) ids ∧ (l.length ≤ ci ∧ ∀ k, Value.ownBlock (.slice ai l.length ci) = some k → k < w'.heap.size ∧ ¬ F2 k) ∧ TextsAt w' (.slice at' l.length ct) (texts.map bs) ∧ (l.length ≤ ct ∧ ∀ k, Value.ownBlock (.slice at' l.length ct) = some k → k < w'.heap.size ∧ ¬ F2 k) ∧ ArenaAt w.heap.size A L F2 w' ∧ Below w.heap.size w1 w') := fun A F w1 ha b1 =>
    (makes_own hM b1 (Nat.le_refl _) ha (by omega) (fun x hx => by have := hls x hx; omega) (made_ok (by omega))).mono (by
      rintro e w' ⟨L, ids, texts, vi, vt, F2, hto, rfl, hI, hIc, hT, hTc, har, b2⟩
      have hln := hto.lens
      obtain ⟨ai, ci, rfl, _⟩ := id hI
      obtain ⟨at', ct, rfl, _⟩ := id hT
      rw [hln.1] at *
      rw [List.length_map, hln.2] at *
      exact ⟨L, ids, texts, ai, ci, at', ct, F2, hto, rfl, hI, ⟨(hIc.1 _ _ _ rfl).1, hIc.2⟩, hT, ⟨(hTc.1 _ _ _ rfl).1, hTc.2⟩, har, b2⟩)
  have HO := Lib.hid hO
  have HS := Lib.hid hos
  obtain ⟨am, cm, rfl, _⟩ := hM
  obtain ⟨ao, cap, rfl, _⟩ := hO
  have q1 : decide ((n : Int) < 0) = false := decide_eq_false (by omega)
  have q2 : decide ((n : Int) > (l.length : Int)) = false := decide_eq_false (by omega)
  clear hF1 hF2 hls hos
  go_enter Tryz.func3, Tryz.ntmps3
  go_wp2_with (first
    | (go_at_call 4; with_reducible refine HF1.out.mono ?_; rintro e w1 ⟨rfl, hw⟩; have hw := hw.symm; subst hw)
    | (go_at_call 5; with_reducible refine HF2.out.mono ?_; rintro e w1 ⟨rfl, hw⟩; have hw := hw.symm; subst hw)
    | (go_at_call 7; refine (New_any _).mono ?_; rintro e w1 ⟨A, F, rfl, ha1, b1⟩)
    | (go_at_call 8; with_reducible refine (HMk.out _ _ _ ha1 b1).mono ?_; rintro e w2 ⟨L, ids, texts, ai, ci, at', ct, F2, hto, rfl, hI, ⟨hIc, hfar⟩, hT, ⟨hTc, hfart⟩, har, b2⟩))
  have hln := hto.lens
  have hA := hto.all exp_same (by omega)
  obtain ⟨W3, hW3⟩ : ∃ W3, Hid (W3 = w2.alloc (.cells #[.slice ai l.length ci, .slice at' l.length ct] 32)) := ⟨_, Lib.hid rfl⟩
  obtain ⟨N, hN⟩ : ∃ N, Hid (N = w2.heap.size) := ⟨_, Lib.hid rfl⟩
  have hN3 : Holds W3 N 32 #[.slice ai l.length ci, .slice at' l.length ct] := by rw [hW3.out, hN.out]; exact Holds.new _ _ _
  have hb3 : Below w2.heap.size w2 W3 := by rw [hW3.out]; exact (Below.refl _ _).alloc (Nat.le_refl _) _
  have hbw3 : Below w.heap.size w W3 := (b1.trans b2).trans (hb3.mono (Nat.le_trans b1.size b2.size))
  have har3 := har.below hb3
  have hI3 := hI.below hb3
  have hT3 := hT.below hb3
  rw [← hW3.out, ← hN.out]
  have y0 : W3.drew.cell? ⟨N, 0, none⟩ = some (.slice ai l.length ci) := hN3.cell 0
  have hsl1 := cutI_h ai l.length ci n (by omega)
  have hsl2 := cutI_l ai l.length ci n (by omega)
  have hkn : Kn w.heap.size A L F2 W3.drew ai l.length ci ids texts := ⟨har3.moves (S := nobody) ((Moves.refl nobody W3).drew) (fun _ _ h => h), hA.good, by have := hA.few; omega, hI3, hIc, rpPaired hA.pairs, fun k e => ⟨Nat.lt_of_lt_of_le (hfar k e).1 hb3.size, (hfar k e).2⟩⟩
  have HNo : Hid (∀ i, F2 i → w.heap.size ≤ i) := fun i h => (har.lt i h).1
  have hOd := (HO.out.below hbw3).moves (S := nobody) ((Moves.refl nobody W3).drew) (fun _ _ h => h)
  have HBo : Hid (ops ≠ [] → ∀ k, Value.ownBlock (.slice ao ops.length cap) = some k → k < w.heap.size) := fun hne k hk => by
    obtain ⟨ao', cap', e, h⟩ := HO.out
    injection e with e1 _ _
    subst e1
    obtain ⟨b, off, rfl, hb, _⟩ := h hne
    have : b = k := by simpa [Value.ownBlock] using hk
    omega
  have HAl := Lib.hid (hkn.all (n := n) hn hOd (fun hne k hk hF => by have h1 := HBo.out hne k hk; have h2 := HNo.out k hF; omega) hol HS.out)
  have HKn := Lib.hid hkn
  have HTf : Hid (∀ k, Value.ownBlock (.slice at' l.length ct) = some k → k < W3.heap.size ∧ ¬ F2 k) := fun k e => ⟨Nat.lt_of_lt_of_le (hfart k e).1 hb3.size, (hfart k e).2⟩
  have HN3d : Hid (Holds W3.drew N 32 #[.slice ai l.length ci, .slice at' l.length ct]) := hN3
  have nN : ¬ F2 N := arena_ne har3 hN3 (by decide) (by decide)
  have HBw := Lib.hid hbw3
  have HT3 := Lib.hid hT3
  have HA := Lib.hid hA
  have HHl := Lib.hid hln
  clear hkn hOd hN3 hbw3 hI3 hT3 har3 hb3 har hI hT hfar hfart hA hto b1 b2 ha1 hln
  go_region_held3 (fun w' => w'.cell? ⟨N, 0, none⟩ = some (.slice ai l.length ci))
    (first | with_reducible exact y0 | with_reducible exact z0 | go_keep)
    (first
      | (go_at_call 9; (with_reducible refine HAl.out.mono ?_); rintro e w4 ⟨L4, rs, ar, cr, F4, rfl, hr4, har4, hG4, hp4, hl4, hm4, hF4, hlong, hshort, hfr4⟩; have hN4 := HN3d.out.moves hm4 nN; have z0 : w4.cell? ⟨N, 0, none⟩ = some (.slice ai l.length ci) := hN4.cell 0))
  all_goals
    have hfew2 := HA.out.few
    have hkn4 := (HKn.out.next har4 hG4 hp4 (by omega) hm4 hF4).drew
    have hB4 : Below w.heap.size w w4 := HBw.out.drew.trans (hm4.below (by have := HBw.out.size; exact this) HNo.out)
    have HNo4 : Hid (∀ i, F4 i → w.heap.size ≤ i) := fun i h => (har4.lt i h).1
    have hO4 := (HO.out.below hB4).moves (S := nobody) ((Moves.refl nobody w4).drew) (fun _ _ h => h)
    have HEv := Lib.hid (hkn4.eval (n := n) hn hO4 (fun hne k hk hF => by have h1 := HBo.out hne k hk; have h2 := HNo4.out k hF; omega) hol HS.out)
    have nN4 : ¬ F4 N := arena_ne har4 hN4 (by decide) (by decide)
    have HN4d : Hid (Holds w4.drew N 32 #[.slice ai l.length ci, .slice at' l.length ct]) := hN4
    have x0 : w4.drew.cell? ⟨N, 0, none⟩ = some (.slice ai l.length ci) := hN4.cell 0
    have HT4 := Lib.hid (movesT (w := W3.drew) HT3.out hm4 fun k e => (HTf.out k e).2)
    have HTf4 : Hid (∀ k, Value.ownBlock (.slice at' l.length ct) = some k → ¬ F4 k) := fun k e hf => by
      have h1 := HTf.out k e
      rcases hF4 k hf with h2 | h2
      · exact h1.2 h2
      · have : W3.drew.heap.size = W3.heap.size := rfl
        omega
    have HR4 := Lib.hid (And.intro hr4 hfr4)
    have HLo := Lib.hid hlong
    have HSh := Lib.hid hshort
    have HB4 := Lib.hid hB4
    have HK4 := Lib.hid hkn4
    clear hkn4 hB4 hO4 hN4 hr4 hfr4 har4 hG4 hp4 hm4 hF4 hlong hshort y0 z0
    go_wp2_with fail
    go_region_held3 (fun w' => w'.cell? ⟨N, 0, none⟩ = some (.slice ai l.length ci))
      (first | with_reducible exact x0 | with_reducible exact z0 | go_keep)
      (first
        | (go_at_call 10; (with_reducible refine HEv.out.mono ?_); rintro e w5 ⟨L5, x, F5, rfl, har5, hG5, hp5, hl5, hm5, hF5, hxl, hxt, hok⟩; have hN5 := HN4d.out.moves hm5 nN4; have z0 : w5.cell? ⟨N, 0, none⟩ = some (.slice ai l.length ci) := hN5.cell 0))
    all_goals
      have hB5 : Below w.heap.size w w5 := HB4.out.drew.trans (hm5.below (by have := HB4.out.size; exact this) HNo4.out)
      have hT5 := movesT (w := w4.drew) HT4.out hm5 HTf4.out
      have hO5 := HO.out.below hB5
      have HEn := Lib.hid (encT (w := w5.drew) (har5.moves (S := nobody) ((Moves.refl nobody w5).drew) (fun _ _ h => h)) hG5 hxt)
      have hlt : n ≤ (texts.map bs).length := by rw [List.length_map, HHl.out.2]; exact hn
      have HRe : Hid (∀ W, Below w5.heap.size w5 W → Calls Tryz.prog 12 #[.slice (cutA at' 0 ct) n ct, .slice (cutA at' n ct) (l.length - n) (ct - n), .slice ao ops.length cap] W fun e w' => e = .returned (.string (bs (evalT (texts.take n) (texts.drop n) ops))) ∧ Below W.heap.size W w') := fun W hb =>
        r14Eval_any (by rw [List.map_take]; exact (cutT_take hT5 n hlt ct).below hb) (by rw [List.map_drop]; exact (cutT_drop hT5 hTc n hlt (ct - n)).below hb) (hO5.below hb) (by omega) (fun o ho => by have := HS.out o ho; omega) hok
      have HRi := Lib.hid (fun W => cRight_any (w := W) ao ops.length cap (by omega))
      have ht1 := cutT_h at' l.length ct n (by omega)
      have ht2 := cutT_l at' l.length ct n hn
      have x1 : w5.drew.cell? ⟨N, 1, none⟩ = some (.slice at' l.length ct) := hN5.cell 1
      have HN5 : Hid (∀ W, Below w5.heap.size w5 W → W.cell? ⟨N, 1, none⟩ = some (.slice at' l.length ct)) := fun W hb => (hN5.moves (S := nobody) (Moves.ofBelow hb) (fun h => h)).cell 1
      have HB5 := Lib.hid hB5
      have HOk := Lib.hid hok
      have HXl := Lib.hid hxl
      have HXt := Lib.hid hxt
      clear hxl
      have HBd := Lib.hid ((Below.refl w5.heap.size w5).drew)
      have HT5 := Lib.hid hT5
      have HP5 := Lib.hid hp5
      have HR5 : Hid (IdsAt w5 (.slice ar rs.length cr) rs) := (show IdsAt w4.drew (.slice ar rs.length cr) rs from HR4.out.1).moves hm5 (fun k e => HR4.out.2 k e)
      have HO5 := Lib.hid hO5
      have HTc : Hid (l.length ≤ ct) := hTc
      have HG5 := Lib.hid hG5
      have HAr5 := Lib.hid har5
      obtain ⟨T, hTT⟩ : ∃ T, T = evalT (texts.take n) (texts.drop n) ops := ⟨_, rfl⟩
      rw [← hTT] at HEn HRe
      generalize bs T = ST at *
      clear hTT
      clear hB5 hT5 hO5 hN5 har5 hG5 hp5 hm5 hF5 hxt hok
      go_wp2_with fail
      go_region_held3 (fun w' => w'.cell? ⟨N, 1, none⟩ = some (.slice at' l.length ct))
        (first | with_reducible exact x1 | with_reducible exact z1 | with_reducible exact v1 | go_keep)
        (first
          | (go_at_call 11; (with_reducible refine HEn.out.mono ?_); rintro e w6 ⟨rfl, b6⟩; have B6 := Lib.hid (HBd.out.trans (b6.mono HBd.out.size)); have z1 := HN5.out _ B6.out; clear b6)
          | (go_at_call 12; (with_reducible refine (HRe.out _ B6.out).mono ?_); rintro e w7 ⟨rfl, b7⟩; have B7 := Lib.hid (B6.out.trans (b7.mono B6.out.size)); have v1 := HN5.out _ B7.out; clear b7)
          | (go_at_call 13; (with_reducible refine (HRi.out _).mono ?_); rintro e w' ⟨rfl, hw⟩; have hw := hw.symm; subst hw))
      all_goals
        by_cases h64 : ops.length ≤ 64
        · have q64 : decide ((ops.length : Int) > 64) = false := decide_eq_false (by omega)
          have hsm := rpPre HG5.out HP5.out (HSh.out h64)
          have hlr : rs.length = ops.length := by rw [hsm.length, runT_len]
          obtain ⟨R, hR⟩ : ∃ R, R = runT (texts.take n) (texts.drop n) ops := ⟨_, rfl⟩
          have hRl : R.length = ops.length := by rw [hR, runT_len]
          have HRA : Hid (∀ W, Below w5.heap.size w5 W → Calls Tryz.prog 14 #[.slice (cutA at' 0 ct) n ct, .slice (cutA at' n ct) (l.length - n) (ct - n), .slice ao ops.length cap] W fun e w' => ∃ av cv, e = .returned (.slice av ops.length cv) ∧ TextsAt w' (.slice av ops.length cv) (R.map bs) ∧ Below W.heap.size W w') := fun W hb =>
            (r14All_any (by rw [List.map_take]; exact (cutT_take HT5.out n hlt ct).below hb) (by rw [List.map_drop]; exact (cutT_drop HT5.out HTc.out n hlt (ct - n)).below hb) (HO5.out.below hb) (by omega) (fun o ho => by have := HS.out o ho; omega) (HOk.out h64)).mono (by
              rintro e w' ⟨v, rfl, hv, hb'⟩
              rw [← hR] at hv
              obtain ⟨av, cv, rfl, _⟩ := id hv
              rw [List.length_map, hRl] at *
              exact ⟨av, cv, rfl, hv, hb'⟩)
          have HNl : Hid (∀ W, Calls Tryz.prog 9 #[.pointer none, .slice none 0 0, .slice none 0 0, .slice ao ops.length cap] W fun r w' => r = .returned (.slice none 0 0) ∧ w' = W) := fun W => cAll_nil _ _ _
          rw [← hR] at hsm
          have HSm := Lib.hid hsm
          have HRl := Lib.hid hRl
          have u1 : w7.drew.cell? ⟨N, 1, none⟩ = some (.slice at' l.length ct) := HN5.out _ B7.out.drew
          have HU : Hid (∀ W, Below w5.heap.size w5 W → W.cell? ⟨N, 1, none⟩ = some (.slice at' l.length ct)) := HN5
          rw [hlr] at *
          clear HEn HRe HSh HR4 HXt HXl HLo hsm hlr hRl hR z1 v1
          go_wp2_with fail
          go_region_held3 (fun w' => w'.cell? ⟨N, 1, none⟩ = some (.slice at' l.length ct))
            (first | with_reducible exact u1 | with_reducible exact u2 | go_keep)
            (first
              | (go_at_call 14; (with_reducible refine (HRA.out _ B7.out.drew).mono ?_); rintro e w8 ⟨av, cv, rfl, hv8, b8⟩; have B8 := Lib.hid (B7.out.drew.trans (b8.mono B7.out.drew.size)); have u2 := HU.out _ B8.out; have HV8 := Lib.hid hv8; clear hv8 b8))
          all_goals
            have HMd : Hid (∀ W, Below w8.heap.size w8 W → IdsAt W (.slice ar ops.length cr) rs) := fun W hb => by have h := HR5.out.below (B8.out.trans (hb.mono B8.out.size)); rwa [HSm.out.length, HRl.out] at h
            have HWt : Hid (∀ W, Below w8.heap.size w8 W → TextsAt W (.slice av ops.length cv) (R.map bs)) := fun W hb => HV8.out.below hb
            have HAr : Hid (∀ W, Below w8.heap.size w8 W → ArenaAt w.heap.size A L5 F5 W) := fun W hb => HAr5.out.below (B8.out.trans (hb.mono B8.out.size))
            have HBz : Hid (Below w.heap.size w w8) := HB5.out.trans (B8.out.mono HB5.out.size)
            clear HRA HR5 HAr5 HV8 HB5 HT5 HP5 HO5 HOk HU u1 u2 HN5 HBd HRi q64 ht1 ht2 HS HO HMk HA HHl HTf HTf4 HT4 HB4 HK4 HKn HBw HAl HEv hsl1 hsl2
            go_wp2_with (go_at_call 9; (with_reducible refine (HNl.out _).mono ?_); rintro e w' ⟨rfl, hw⟩; have hw := hw.symm; subst hw)
            go_loopw [12] (fun i wr => ∃ k : Nat, k ≤ ops.length ∧ i = .int .i64 k ∧ Below w8.heap.size w8 wr) (fun i _ => ops.length - (intOf i).toNat)
            case atStart => exact ⟨0, Nat.zero_le _, rfl, Below.refl _ _⟩
            case round =>
              obtain ⟨k, hk, rfl, hb⟩ := hrel
              by_cases hlt : k < ops.length
              · have hkR : k < R.length := by rw [HRl.out]; exact hlt
                have hkr : k < rs.length := by rw [HSm.out.length]; exact hkR
                have hta := rpGetD HSm.out k
                obtain ⟨x, hx⟩ : ∃ x, x = rs.getD k (-1) := ⟨_, rfl⟩
                obtain ⟨t, ht⟩ : ∃ t, t = R.getD k [] := ⟨_, rfl⟩
                have hxk : rs[k]? = some x := by rw [hx, List.getD_eq_getElem?_getD, List.getElem?_eq_getElem hkr]; rfl
                have htk : R[k]? = some t := by rw [ht, List.getD_eq_getElem?_getD, List.getElem?_eq_getElem hkR]; rfl
                rw [← hx, ← ht] at hta
                obtain ⟨ao1, c1', e1, h1⟩ := HMd.out wr hb
                injection e1 with e1 g1 g2
                clear g1 g2
                subst e1
                obtain ⟨bm, om, rfl, hbm, hcm⟩ := h1 (by intro h; rw [h] at hkr; simp at hkr)
                obtain ⟨ao2, c2', e2, h2⟩ := HWt.out wr hb
                injection e2 with e2 g1 g2
                clear g1 g2
                subst e2
                obtain ⟨bt, ot, rfl, hbt, hct⟩ := h2 (by intro h; rw [List.map_eq_nil_iff] at h; rw [h] at hkR; simp at hkR)
                have c1 := hcm k x hxk
                have c2 := hct k (bs t) (by rw [List.getElem?_map, htk]; rfl)
                have d1 : wr.drew.cell? ⟨bm, om + k, none⟩ = some (.int .i64 x) := c1
                have d2 : wr.drew.cell? ⟨bt, ot + k, none⟩ = some (.string (bs t)) := c2
                have HE := Lib.hid (encT (w := wr.drew) ((HAr.out wr hb).moves (S := nobody) ((Moves.refl nobody wr).drew) (fun _ _ h => h)) HG5.out hta)
                have HCl : Hid (∀ W, Below wr.drew.heap.size wr.drew W → W.cell? ⟨bm, om + k, none⟩ = some (.int .i64 x) ∧ W.cell? ⟨bt, ot + k, none⟩ = some (.string (bs t))) := fun W hW => ⟨(hW.cell (p := ⟨bm, om + k, none⟩) hbm).trans d1, (hW.cell (p := ⟨bt, ot + k, none⟩) hbt).trans d2⟩
                have HB := Lib.hid (hb.drew)
                have hnone := hta.none_iff HG5.out
                have qs : ((bs t).toList == (bs t).toList) = true := by simp
                have hbl : (bs t).toList = t := by rw [ByteArray.toList_eq]; simp [bs]
                have hzz : (((x == -1) = true ∧ ((bs t).toList == ([] : List UInt8)) = true ∧ (bs t).toList.isEmpty = true) ∨ ((x == -1) = false ∧ ((bs t).toList == ([] : List UInt8)) = false ∧ (bs t).toList.isEmpty = false)) := by
                  rw [hbl]
                  by_cases hz : x = -1
                  · left
                    rw [hnone.1 hz]
                    exact ⟨by simpa using hz, rfl, rfl⟩
                  · right
                    have hne : t ≠ [] := fun e => hz (hnone.2 e)
                    exact ⟨by simpa using hz, by simpa using hne, by simpa using hne⟩
                clear hbl hnone hta hxk htk hx ht hcm hct h1 h2 hkR hkr c1 c2 HSm HRl HMd HWt HAr hb
                generalize bs t = S at *
                rcases hzz with ⟨qa, qb, qc⟩ | ⟨qa, qb, qc⟩
                all_goals
                  go_wp2_with fail
                  go_region_held3 (fun w' => w'.cell? ⟨bm, om + k, none⟩ = some (.int .i64 x) ∧ w'.cell? ⟨bt, ot + k, none⟩ = some (.string S))
                    (first | with_reducible exact ⟨d1, d2⟩ | with_reducible exact ⟨z1, z2⟩ | go_keep)
                    (first
                      | (go_at_call 11; (with_reducible refine HE.out.mono ?_); rintro e w9 ⟨rfl, b9⟩; have B9 := Lib.hid (HB.out.trans (b9.mono HB.out.size)); obtain ⟨z1, z2⟩ := HCl.out _ b9; clear b9))
                  all_goals
                    go_wp2_with fail
                    go_roundw
                    case rel => exact ⟨k + 1, by omega, by go_num, B9.out⟩
                    case measure => simp [intOf]; omega
              · have hkl : k = ops.length := by omega
                subst hkl
                have HB := Lib.hid hb
                clear hlt hb HSm HRl HMd HWt HAr
                go_wp2_with (go_at_call 6; (with_reducible refine (awake14_any _).mono ?_); rintro e w9 ⟨rfl, b9⟩)
                go_ret
                exact ⟨rfl, HBz.out.trans ((HB.out.trans (b9.mono HB.out.size)).mono HBz.out.size)⟩
        · have q64 : decide ((ops.length : Int) > 64) = true := decide_eq_true (by omega)
          have hx1 := HXl.out (by omega)
          subst hx1
          have hrs := HLo.out (by omega)
          subst hrs
          have HBz : Hid (Below w.heap.size w w7) := HB5.out.trans (B7.out.mono HB5.out.size)
          clear HEn HRe HSh HR4 HXt HXl HLo h64
          go_wp2_with (go_at_call 6; (with_reducible refine (awake14_any _).mono ?_); rintro e w8 ⟨rfl, b8⟩)
          go_ret
          exact ⟨rfl, HBz.out.trans (b8.mono HBz.out.size)⟩
end Go.Proofs.YtkigohenfaomkaaGreat
