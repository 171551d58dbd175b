/- Part 15 of what the statement wants. -/
import Derived.Test.YtobhpclemmhpoaaGreatDoorPk07
import Derived.Test.YtobhpclemmhpoaaGreatDoorPk10
namespace Go.Proofs.YtobhpclemmhpoaaGreatDoor
open Go.RowKit

set_option maxHeartbeats 2000000 in
set_option maxRecDepth 100000 in
theorem refExp_any (s x : List UInt8) (hs : s.length ≤ 1000000) (hx : x.length ≤ 10000) (hg : kindL s = 5 → (nodeOf s).s.length ≤ 10000) (ha : kindL s = 5 → ∀ a ∈ (nodeOf s).args, a.length ≤ 10000) (w : World) :
    Calls Tryz.prog 55 #[.string (bs s), .string (bs x)] w fun e w' => e = .returned (.string (bs (refExpL s x))) ∧ Below w.heap.size w w' := by
  have HKs := Lib.hid (fun W => refKind_any s W)
  have HKx := Lib.hid (fun W => refKind_any x W)
  by_cases h5 : kindL s = 5
  · have hg := hg h5
    have ha := ha h5
    rw [h5] at HKs
    by_cases h2 : kindL x = 2
    · rw [h2] at HKx
      have hp := Parse_any s hs w
      have hE : refExpL s x = if (nodeOf s).args.length < 8 then refShareL (nodeOf s).s (insL x (nodeOf s).args) else [] := by
        unfold refExpL
        by_cases h : (nodeOf s).args.length < 8
        · rw [if_pos ⟨h5, h2, h⟩, if_pos h]
        · rw [if_neg (fun hh => h hh.2.2), if_neg h]
      have HE := Lib.hid hE
      rw [show (parseN (s.length + 1) s 0).1 = nodeOf s from rfl] at hp
      clear hE
      generalize (parseN (s.length + 1) s 0).2.1 = en at *
      generalize (parseN (s.length + 1) s 0).2.2 = ok at *
      generalize nodeOf s = x0 at *
      obtain ⟨xk, xa, xb, g, l⟩ := x0
      simp only [rnodeV] at hp hg ha HE
      have HC : Hid (Calls Tryz.prog 78 #[.string (bs s), .int .i64 0] w fun e w' => ∃ ao nn cap, e = .returned (.tuple #[.agg #[.int .i64 xk, .int .i64 (xa : Int), .int .i64 (xb : Int), .string (bs g), .slice ao nn cap], .int .i64 (en : Int), .bool ok]) ∧ TextsAt w' (.slice ao nn cap) (l.map bs) ∧ nn = l.length ∧ Below w.heap.size w w') :=
        hp.mono (by rintro e w' ⟨v, h1, h4, h3⟩; obtain ⟨ao, cap, h2, _⟩ := id h4; subst h2; exact ⟨ao, _, cap, h1, h4, by simp, h3⟩)
      have HSh : Hid (∀ (W : World) (v : Value), TextsAt W v ((insL x l).map bs) → l.length ≤ 8 → Calls Tryz.prog 77 #[.string (bs g), v] W fun e w' => e = .returned (.string (bs (refShareL g (insL x l)))) ∧ Below W.heap.size W w') := fun W v hv hl =>
        refShare_any g hv hg (by rw [insL_length]; omega) (fun a h => by rcases insL_mem h with h | h; exact h ▸ hx; exact ha a h)
      clear hp hg ha hs hx h5 h2
      have HLs := Lib.hid (fun a => less_bs x a)
      obtain ⟨i0, hi, hz0, hz1, hz2⟩ := info_parts infoStr
      by_cases h8 : l.length < 8
      · have HEE : Hid (bs (refExpL s x) = bs (refShareL g (insL x l))) := by show _ = _; rw [HE.out, if_pos h8]
        rw [HEE.out]
        have q8 : decide ((l.length : Int) ≥ 8) = false := decide_eq_false (by omega)
        have q8n : decide (l.length ≥ 8) = false := decide_eq_false (by omega)
        clear HE HEE
        generalize bs (refShareL g (insL x l)) = F at *
        generalize bs g = G at *
        obtain ⟨X, hXe⟩ : ∃ X, X = bs x := ⟨_, rfl⟩
        have hX : Hid (bs x = X) := hXe.symm
        rw [← hXe]
        simp only [← hXe] at HLs HKx
        clear hXe
        generalize bs s = S at *
        go_enter Tryz.func55, Tryz.ntmps55
        go_wp2_with (first
          | (go_at_call 75; with_reducible refine (HKs.out _).mono ?_; rintro e w2 ⟨rfl, hw⟩; have hw := hw.symm; subst hw)
          | (go_at_call 75; with_reducible refine (HKx.out _).mono ?_; rintro e w2 ⟨rfl, hw⟩; have hw := hw.symm; subst hw)
          | (go_at_call 78; with_reducible refine HC.out.mono ?_; rintro e w1 ⟨ao, nn, cap, rfl, hT, rfl, b1⟩))
        obtain ⟨W2, hW2⟩ : ∃ W2, W2 = w1.alloc (.cells #[.int .i64 xk, .int .i64 (xa : Int), .int .i64 (xb : Int), .string G, .slice ao l.length cap] 118) := ⟨_, rfl⟩
        have hN2 : Holds W2 w1.heap.size 118 #[.int .i64 xk, .int .i64 (xa : Int), .int .i64 (xb : Int), .string G, .slice ao l.length cap] := by rw [hW2]; exact Holds.new _ _ _
        have hT2 : TextsAt W2 (.slice ao l.length cap) (l.map bs) := by rw [hW2]; exact hT.below ((Below.refl _ _).alloc (Nat.le_refl _) _)
        have hb2 : Below w.heap.size w W2 := by rw [hW2]; exact b1.alloc b1.size _
        rw [← hW2]
        have HN2 := Lib.hid hN2
        have HB2 := Lib.hid hb2
        obtain ⟨_, _, hTe, hTc⟩ := hT2
        simp only [Value.slice.injEq] at hTe
        obtain ⟨rfl, hxx, rfl⟩ := hTe
        clear hxx
        have HTc := Lib.hid hTc
        have hNl := hN2.lt
        have hsz2 := hb2.size
        clear hW2 hN2 hT hb2 b1 hTc HC HKs HKx
        generalize w1.heap.size = N at *
        go_loopw [8, 9, 10] (fun v b i wr => ∃ (k : Nat) (bb : Bool) (D : List (List UInt8)), i = .int .i64 (k : Int) ∧ b = .bool bb ∧ InsSt x l k bb D ∧ wr.ownsRow W2.heap.size 9 1 v (D.map bs).length (strs (D.map bs)) ∧ (D = [] → v = .slice none 0 0) ∧ Below W2.heap.size W2 wr) (fun _ _ i _ => l.length - (intOf i).toNat)
        case atStart => exact ⟨0, false, [], rfl, rfl, InsSt.start x l, World.ownsRow_nil _ _ _ _, fun _ => rfl, Below.refl _ _⟩
        case round =>
          obtain ⟨k, bb, D, rfl, rfl, hst, hrow, hnil, hbel⟩ := hrel
          have hk := hst.le
          have hDl : (D.map bs).length ≤ 10 := by have := hst.few; simp; omega
          have n4 : wr.cell? ⟨N, 4, none⟩ = some (.slice ao l.length cap) := (hbel.cell (p := ⟨N, 4, none⟩) hNl).trans (HN2.out.cell 4)
          have n3 : wr.cell? ⟨N, 3, none⟩ = some (.string G) := (hbel.cell (p := ⟨N, 3, none⟩) hNl).trans (HN2.out.cell 3)
          have HSt := Lib.hid hst
          have HNil := Lib.hid hnil
          clear hst hnil
          by_cases hlt : k < l.length
          · obtain ⟨b0, off, rfl, hb0, hcell⟩ := HTc.out (by intro h; simp at h; simp [h] at hlt)
            obtain ⟨a, ha⟩ : ∃ a, a = l[k] := ⟨_, rfl⟩
            have ck := hcell k (bs a) (by simp [hlt, ha])
            have c1 : wr.cell? ⟨b0, off + k, none⟩ = some (.string (bs a)) := (hbel.cell (p := ⟨b0, off + k, none⟩) hb0).trans ck
            have q1 : decide ((k : Int) < (l.length : Int)) = true := decide_eq_true (by omega)
            have HM : Hid ((D ++ [a]).map bs = D.map bs ++ [bs a]) := by show (D ++ [a]).map bs = _; simp
            have HM2 : Hid ((D ++ [x] ++ [a]).map bs = (D.map bs ++ [bs x]) ++ [bs a]) := by show (D ++ [x] ++ [a]).map bs = _; simp
            have hless := HLs.out a
            cases bb with
            | true =>
              have HNx := Lib.hid (HSt.out.pass hlt)
              rw [← ha] at HNx
              clear hcell ha hless ck HM2
              generalize bs a = A at *
              go_wp2_with (first
                | (at_builtin; refine wpList_append_own _ rfl _ _ 45 rfl W2.heap.size 9 i0 (.string ⟨#[]⟩) 1 16 Tryz.underlying45 hi hz0 hz1 hz2 rfl (by decide) _ _ _ rfl (hrow.alloc _) ⟨wr.heap.size, 0, none⟩ 1 1 [.string A] rfl rfl (cell_one_new _ _ _) (str_one A) (by unfold maxLen; omega) (by omega) (by have := hbel.size; simp; omega) ?_; intro v1 w1 hown1 hg1 hnn1)
                | go_in)
              have hb1w : Below W2.heap.size W2 w1 := (hbel.alloc hbel.size _).grown hg1 (by have := hbel.size; simp; omega) (fun j hj => (hrow.lt j hj).1)
              go_roundw
              case rel => exact ⟨k + 1, true, D ++ [a], by go_num, rfl, HNx.out, by rw [HM.out, strs_snoc]; simpa using hown1, fun e => by simp at e, hb1w⟩
              case measure => simp [intOf]; omega
            | false =>
              cases hle : lessL x a with
              | true =>
                have HNx := Lib.hid (HSt.out.before hlt (by rw [← ha]; exact hle))
                rw [← ha] at HNx
                rw [hle] at hless
                clear hcell ha hle HM
                generalize hA : bs a = A at *
                have HXX : Hid ((D ++ [x] ++ [a]).map bs = (D.map bs ++ [X]) ++ [A]) := by show _ = _; rw [HM2.out, hX.out]
                clear HM2 hA
                go_wp2_with (first
                  | (at_builtin; refine wpList_append_own _ rfl _ _ 45 rfl W2.heap.size 9 i0 (.string ⟨#[]⟩) 1 16 Tryz.underlying45 hi hz0 hz1 hz2 rfl (by decide) _ _ _ rfl (hown1.alloc _) ⟨w1.heap.size, 0, none⟩ 1 1 [.string A] rfl rfl (cell_one_new _ _ _) (str_one A) (by unfold maxLen; omega) (by omega) (by have := hb1w.size; simp; omega) ?_; intro v2 w2 hown2 hg2 hnn2)
                  | (at_builtin; refine wpList_append_own _ rfl _ _ 45 rfl W2.heap.size 9 i0 (.string ⟨#[]⟩) 1 16 Tryz.underlying45 hi hz0 hz1 hz2 rfl (by decide) _ _ _ rfl (hrow.alloc _) ⟨wr.heap.size, 0, none⟩ 1 1 [.string X] rfl rfl (cell_one_new _ _ _) (str_one X) (by unfold maxLen; omega) (by omega) (by have := hbel.size; simp; omega) ?_; intro v1 w1 hown1 hg1 hnn1; have hb1w : Below W2.heap.size W2 w1 := (hbel.alloc hbel.size _).grown hg1 (by have := hbel.size; simp; omega) (fun j hj => (hrow.lt j hj).1); have n41 : w1.cell? ⟨N, 4, none⟩ = some (.slice (some ⟨b0, off, none⟩) l.length cap) := (hb1w.cell (p := ⟨N, 4, none⟩) hNl).trans (HN2.out.cell 4); have c11 : w1.cell? ⟨b0, off + k, none⟩ = some (.string A) := (hb1w.cell (p := ⟨b0, off + k, none⟩) hb0).trans ck)
                  | go_in)
                have hb2w : Below W2.heap.size W2 w2 := (hb1w.alloc hb1w.size _).grown hg2 (by have := hb1w.size; simp; omega) (fun j hj => (hown1.lt j hj).1)
                go_roundw
                case rel => exact ⟨k + 1, true, D ++ [x] ++ [a], by go_num, rfl, HNx.out, by rw [HXX.out, strs_snoc, strs_snoc]; simpa using hown2, fun e => by simp at e, hb2w⟩
                case measure => simp [intOf]; omega
              | false =>
                have HNx := Lib.hid (HSt.out.behind hlt (by rw [← ha]; exact hle))
                rw [← ha] at HNx
                rw [hle] at hless
                clear hcell ha hle HM2 ck
                generalize bs a = A at *
                go_wp2_with (first
                  | (at_builtin; refine wpList_append_own _ rfl _ _ 45 rfl W2.heap.size 9 i0 (.string ⟨#[]⟩) 1 16 Tryz.underlying45 hi hz0 hz1 hz2 rfl (by decide) _ _ _ rfl (hrow.alloc _) ⟨wr.heap.size, 0, none⟩ 1 1 [.string A] rfl rfl (cell_one_new _ _ _) (str_one A) (by unfold maxLen; omega) (by omega) (by have := hbel.size; simp; omega) ?_; intro v1 w1 hown1 hg1 hnn1)
                  | go_in)
                have hb1w : Below W2.heap.size W2 w1 := (hbel.alloc hbel.size _).grown hg1 (by have := hbel.size; simp; omega) (fun j hj => (hrow.lt j hj).1)
                go_roundw
                case rel => exact ⟨k + 1, false, D ++ [a], by go_num, rfl, HNx.out, by rw [HM.out, strs_snoc]; simpa using hown1, fun e => by simp at e, hb1w⟩
                case measure => simp [intOf]; omega
          · have hkl : k = l.length := by omega
            subst hkl
            have q1 : decide ((l.length : Int) < (l.length : Int)) = false := decide_eq_false (by omega)
            cases bb with
            | true =>
              have hD := HSt.out.end
              have hTv : TextsAt wr u8 ((insL x l).map bs) := by rw [← hD]; exact TextsAt.ofRow hrow (fun e => HNil.out (by simpa using e))
              have HSc := Lib.hid (HSh.out wr u8 hTv (by omega))
              clear hD hTv HTc
              go_wp2_with (go_at_call 77; with_reducible refine HSc.out.mono ?_; rintro e w3 ⟨rfl, b3⟩)
              go_ret
              exact ⟨rfl, HB2.out.trans ((hbel.mono hsz2).trans (b3.mono (by have := hbel.size; omega)))⟩
            | false =>
              have hD := HSt.out.last
              have HXX : Hid ((insL x l).map bs = D.map bs ++ [X]) := by show _ = _; rw [← hD, List.map_append, ← hX.out]; rfl
              clear hD HTc
              go_wp2_with (first
                | (go_at_call 77; with_reducible refine (HSh.out w1 _ hTv (by omega)).mono ?_; rintro e w3 ⟨rfl, b3⟩)
                | (at_builtin; refine wpList_append_own _ rfl _ _ 45 rfl W2.heap.size 9 i0 (.string ⟨#[]⟩) 1 16 Tryz.underlying45 hi hz0 hz1 hz2 rfl (by decide) _ _ _ rfl (hrow.alloc _) ⟨wr.heap.size, 0, none⟩ 1 1 [.string X] rfl rfl (cell_one_new _ _ _) (str_one X) (by unfold maxLen; omega) (by omega) (by have := hbel.size; simp; omega) ?_; intro v1 w1 hown1 hg1 hnn1; have hb1w : Below W2.heap.size W2 w1 := (hbel.alloc hbel.size _).grown hg1 (by have := hbel.size; simp; omega) (fun j hj => (hrow.lt j hj).1); have n31 : w1.cell? ⟨N, 3, none⟩ = some (.string G) := (hb1w.cell (p := ⟨N, 3, none⟩) hNl).trans (HN2.out.cell 3); have hTv : TextsAt w1 v1 ((insL x l).map bs) := (by rw [HXX.out]; exact TextsAt.ofRow (by rw [strs_snoc]; simpa using hown1) (fun e => by simp at e)))
                | go_in)
              go_ret
              exact ⟨rfl, HB2.out.trans ((hb1w.mono hsz2).trans (b3.mono (by have := hb1w.size; omega)))⟩
      · have HEE : Hid (bs (refExpL s x) = ⟨#[]⟩) := by show _ = _; rw [HE.out, if_neg h8]; rfl
        have q8 : decide ((l.length : Int) ≥ 8) = true := decide_eq_true (by omega)
        have q8n : decide (l.length ≥ 8) = true := decide_eq_true (by omega)
        clear HE HLs
        generalize bs g = G at *
        generalize bs x = X at *
        generalize bs s = S at *
        go_enter Tryz.func55, Tryz.ntmps55
        go_wp2_with (first
          | (go_at_call 75; with_reducible refine (HKs.out _).mono ?_; rintro e w2 ⟨rfl, hw⟩; have hw := hw.symm; subst hw)
          | (go_at_call 75; with_reducible refine (HKx.out _).mono ?_; rintro e w2 ⟨rfl, hw⟩; have hw := hw.symm; subst hw)
          | (go_at_call 78; with_reducible refine HC.out.mono ?_; rintro e w1 ⟨ao, nn, cap, rfl, hT, rfl, b1⟩))
        go_ret
        exact ⟨by rw [HEE.out]; rfl, b1.alloc b1.size _⟩
    · have HE : Hid (bs (refExpL s x) = ⟨#[]⟩) := by
        show bs (refExpL s x) = _
        unfold refExpL
        rw [if_neg (fun hh => h2 hh.2.1)]; rfl
      have hq : ((kindL x : Int) != 2) = true := by rw [bne_iff_ne]; omega
      clear hg ha
      generalize bs s = S at *
      generalize bs x = X at *
      generalize kindL x = kx at *
      go_enter Tryz.func55, Tryz.ntmps55
      go_wp2_with (first
        | (go_at_call 75; with_reducible refine (HKs.out _).mono ?_; rintro e w2 ⟨rfl, rfl⟩)
        | (go_at_call 75; with_reducible refine (HKx.out _).mono ?_; rintro e w2 ⟨rfl, rfl⟩))
      go_ret
      exact ⟨by rw [HE.out]; rfl, Below.refl _ _⟩
  · have HE : Hid (bs (refExpL s x) = ⟨#[]⟩) := by
      show bs (refExpL s x) = _
      unfold refExpL
      rw [if_neg (fun hh => h5 hh.1)]; rfl
    have hq : ((kindL s : Int) != 5) = true := by rw [bne_iff_ne]; omega
    clear hg ha
    generalize bs s = S at *
    generalize bs x = X at *
    generalize kindL s = ks at *
    go_enter Tryz.func55, Tryz.ntmps55
    go_wp2_with (first
      | (go_at_call 75; with_reducible refine (HKs.out _).mono ?_; rintro e w2 ⟨rfl, rfl⟩)
      | (go_at_call 75; with_reducible refine (HKx.out _).mono ?_; rintro e w2 ⟨rfl, rfl⟩))
    go_ret
    exact ⟨by rw [HE.out]; rfl, Below.refl _ _⟩
set_option maxRecDepth 100000 in
/-- Where the second is no nonce, its length plays no part. -/
theorem refExp_any' (s x : List UInt8) (hs : s.length ≤ 1000000) (hx : x.length ≤ 10000 ∨ kindL x ≠ 2) (hg : kindL s = 5 → (nodeOf s).s.length ≤ 10000 ∧ ∀ a ∈ (nodeOf s).args, a.length ≤ 10000) (w : World) :
    Calls Tryz.prog 55 #[.string (bs s), .string (bs x)] w fun e w' => e = .returned (.string (bs (refExpL s x))) ∧ Below w.heap.size w w' := by
  rcases hx with hx | h2
  · exact refExp_any s x hs hx (fun h => (hg h).1) (fun h => (hg h).2) w
  · have HKs := Lib.hid (fun W => refKind_any s W)
    have HKx := Lib.hid (fun W => refKind_any x W)
    have HE : Hid (bs (refExpL s x) = ⟨#[]⟩) := by
      show bs (refExpL s x) = _
      unfold refExpL
      rw [if_neg (fun hh => h2 hh.2.1)]; rfl
    have hq : ((kindL x : Int) != 2) = true := by rw [bne_iff_ne]; omega
    by_cases h5 : kindL s = 5
    · rw [h5] at HKs
      clear hg
      generalize bs s = S at *
      generalize bs x = X at *
      generalize kindL x = kx at *
      go_enter Tryz.func55, Tryz.ntmps55
      go_wp2_with (first
        | (go_at_call 75; with_reducible refine (HKs.out _).mono ?_; rintro e w2 ⟨rfl, hw⟩; have hw := hw.symm; subst hw)
        | (go_at_call 75; with_reducible refine (HKx.out _).mono ?_; rintro e w2 ⟨rfl, hw⟩; have hw := hw.symm; subst hw))
      go_ret
      exact ⟨by rw [HE.out]; rfl, Below.refl _ _⟩
    · have hq5 : ((kindL s : Int) != 5) = true := by rw [bne_iff_ne]; omega
      clear hg
      generalize bs s = S at *
      generalize bs x = X at *
      generalize kindL s = ks at *
      go_enter Tryz.func55, Tryz.ntmps55
      go_wp2_with (first
        | (go_at_call 75; with_reducible refine (HKs.out _).mono ?_; rintro e w2 ⟨rfl, hw⟩; have hw := hw.symm; subst hw)
        | (go_at_call 75; with_reducible refine (HKx.out _).mono ?_; rintro e w2 ⟨rfl, hw⟩; have hw := hw.symm; subst hw))
      go_ret
      exact ⟨by rw [HE.out]; rfl, Below.refl _ _⟩
end Go.Proofs.YtobhpclemmhpoaaGreatDoor

namespace Go.Proofs.YtobhpclemmhpoaaGreatDoor
open Go.RowKit

def idCells (l : List Int) : List Value := l.map (.int .i64 ·)
theorem ArenaAt.ne_row {B A base n : Nat} {L : List Ent} {F : Nat → Prop} {w : World} {t : TypeId} {v : Value} {xs : List Value} (h : ArenaAt B A L F w) (hr : w.ownsRow base t 1 v n xs) (h1 : t ≠ 66) (h2 : t ≠ 90) : ∀ k, v.ownBlock = some k → ¬ F k := by
  obtain ⟨mb, tv, e1, e2, e3, _, _, _, rfl⟩ := h
  intro k hk
  rcases hr.2 with ⟨rfl, _⟩ | ⟨g, cap, cur, rfl, _, hg, _⟩
  · simp [Value.ownBlock] at hk
  · have : g = k := by simpa [Value.ownBlock] using hk
    subst this
    rintro (rfl | rfl | hk2)
    · unfold Holds at e1
      rw [e1] at hg
      injection hg with hg
      injection hg with _ h
      exact h1 h.symm
    · rw [e3] at hg
      injection hg with hg
      cases hg
    · rcases e2.2 with ⟨rfl, _⟩ | ⟨g', cap', cur', rfl, _, hg', _⟩
      · simp [Value.ownBlock] at hk2
      · have : g' = g := by simpa [Value.ownBlock] using hk2
        subst this
        rw [hg'] at hg
        injection hg with hg
        injection hg with _ h
        exact h2 h.symm

theorem IdsAt.ofRow {w : World} {base : Nat} {v : Value} {l : List Int} (h : w.ownsRow base 36 1 v l.length (idCells l)) (hn : l = [] → v = .slice none 0 0) : IdsAt w v l := by
  by_cases hl : l = []
  · subst hl
    rw [hn rfl]
    exact IdsAt.nil w
  · have hown := h
    obtain ⟨_, hcase⟩ := h
    rcases hcase with ⟨_, h0⟩ | ⟨g, cap', cur, rfl, hg, hh, hn, hcap, hsz, htake⟩
    · exact absurd (List.length_eq_zero_iff.1 h0) hl
    · refine ⟨some ⟨g, 0, none⟩, cap', rfl, fun _ => ⟨g, 0, rfl, (Array.getElem?_eq_some_iff.1 hh).1, fun k x hk => ?_⟩⟩
      have hk' := (List.getElem?_eq_some_iff.1 hk).1
      rw [Nat.zero_add, hown.cellAt k (by omega)]
      simp [idCells, hk]
theorem idCells_snoc (l : List Int) (x : Int) : idCells (l ++ [x]) = idCells l ++ [.int .i64 x] := by simp [idCells]
theorem id_one (x : Int) : ∀ u ∈ [Value.int .i64 x], u.oneCell' = true := by simp [Value.oneCell']
/-- Two rows of different types lie apart. -/
theorem rows_apart {w : World} {B C : Nat} {e t : TypeId} {n m s r : Nat} {v u : Value} {xs ys : List Value} (h : w.ownsRow B e s v n xs) (k : w.ownsRow C t r u m ys) (hne : e ≠ t) : v.ownBlock = none ∨ v.ownBlock ≠ u.ownBlock := by
  rcases h.2 with ⟨rfl, _⟩ | ⟨g, cap, cur, rfl, _, hg, _⟩
  · exact .inl rfl
  · refine .inr ?_
    rcases k.2 with ⟨rfl, _⟩ | ⟨g', cap', cur', rfl, _, hg', _⟩
    · simp [Value.ownBlock]
    · intro he
      have : g = g' := by simpa [Value.ownBlock] using he
      subst this
      rw [hg] at hg'
      injection hg' with h1
      injection h1 with _ h2
      exact hne h2
theorem IdsAt.below {w w' : World} {v : Value} {l : List Int} (h : IdsAt w v l) (hb : Below w.heap.size w w') : IdsAt w' v l :=
  h.keep hb.size fun _ _ _ _ _ hlt => hb.cell hlt
end Go.Proofs.YtobhpclemmhpoaaGreatDoor
