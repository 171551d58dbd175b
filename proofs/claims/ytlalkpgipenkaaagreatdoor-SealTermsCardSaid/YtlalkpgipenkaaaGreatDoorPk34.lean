/- Part 34 of what the statement wants. -/
import Derived.Deep.Cut
import Derived.Deep.RegionWith
import Derived.Test.YtlalkpgipenkaaaGreatDoorPk33
namespace Go.Proofs.YtlalkpgipenkaaaGreatDoor
open Go.RowKit

theorem formsW_cons (t0 : List UInt8) (r : List (List UInt8)) : formsW (t0 :: r) = match dataT t0 with
    | some [b] => if (fitP (formsP (b.toNat : Int)) (r.length : Int)).2 = true then (mapFK (lettersOf (fitP (formsP (b.toNat : Int)) (r.length : Int)).1) r r.length).map ([b] :: ·) else none
    | _ => none := rfl
theorem fitP_mem {l : List ByteArray} {m : Int} (h : (fitP l m).2 = true) : (fitP l m).1 ∈ l ∧ (((fitP l m).1.size : Nat) : Int) = m := by
  unfold fitP at *
  cases hf : l.find? (fun x => (x.size : Int) == m) with
  | none => rw [hf] at h; cases h
  | some x =>
    refine ⟨List.mem_of_find?_eq_some hf, ?_⟩
    have := List.find?_some hf
    simpa using this

set_option maxHeartbeats 4000000 in
set_option maxRecDepth 100000 in
theorem pForms_any {B A : Nat} {L : List Ent} {F : Nat → Prop} {w : World} (ha : ArenaAt B A L F w) (hG : Good L) {v : Value} {l : List Int} {ts : List (List UInt8)} (hv : IdsAt w v l) (hT : TAts L l ts) (hl : l.length ≤ 32) :
    Calls Tryz.prog 70 #[.pointer (some ⟨A, 0, none⟩), v] w (FormsPost ts w) := by
  cases hT with
  | nil =>
    obtain ⟨ao, cap, rfl, _⟩ := hv
    go_enter Tryz.func70, Tryz.ntmps70
    go_wp2_with fail
    go_ret2
    exact ⟨Below.refl _ _, _, _, rfl, rfl, fun fm h => by cases h⟩
  | @cons i0 t0 lr r h0 hr =>
    obtain ⟨ao, cap, rfl, hc⟩ := hv
    obtain ⟨bk, off, rfl, hbk, hcell⟩ := hc (by simp)
    have c0 := hcell 0 i0 rfl
    rw [Nat.add_zero] at c0
    have hlr := hr.length
    have HD := Lib.hid (fun (W : World) (hb : Below w.heap.size w W) => pData_any (ha.below hb) hG h0)
    have HW := Lib.hid (formsW_cons t0 r)
    have HCe := Lib.hid hcell
    have HA := Lib.hid ha
    have hn1 : (((i0 :: lr).length : Nat) : Int) - 1 = (lr.length : Int) := by rw [List.length_cons]; omega
    have hn2 : (((i0 :: lr).length : Nat) : Int) = (lr.length : Int) + 1 := by rw [List.length_cons]; omega
    have HN : Hid ((i0 :: lr).length = lr.length + 1) := rfl
    rw [List.length_cons] at hl
    have hn32 : lr.length ≤ 31 := by omega
    clear hc hcell ha hl hn1 hn2
    have HTs := Lib.hid hr
    clear hr
    generalize hnn : (i0 :: lr).length = nn at *
    have hnn1 : nn = lr.length + 1 := HN.out
    have q0 : ((nn : Int) == 0) = false := by rw [beq_eq_false_iff_ne]; omega
    have q1 : (nn : Int) - 1 = (lr.length : Int) := by omega
    have q2 : 0 < nn := by omega
    have q3 : nn ≤ 32 := by omega
    clear hnn hnn1 HN
    cases hd : dataT t0 with
    | none =>
      rw [hd] at HD HW
      have HW2 : Hid (formsW (t0 :: r) = none) := HW.out
      clear HW
      go_enter Tryz.func70, Tryz.ntmps70
      go_wp2_with fail
      go_at_call 114
      (with_reducible refine (HD.out _ (Below.refl _ _)).mono ?_)
      rintro e w1 ⟨b1, s, is, rfl, h6, _⟩
      simp only [Option.isSome_none] at h6
      subst h6
      go_wp2_with fail
      go_ret2
      exact ⟨b1, _, _, rfl, by rw [HW2.out]; rfl, fun fm h => by rw [HW2.out] at h; cases h⟩
    | some s0 =>
      rw [hd] at HD HW
      by_cases hs1 : s0.length = 1
      · match s0, hs1 with
        | [b], _ =>
        have HW2 : Hid (formsW (t0 :: r) = if (fitP (formsP (b.toNat : Int)) (r.length : Int)).2 = true then (mapFK (lettersOf (fitP (formsP (b.toNat : Int)) (r.length : Int)).1) r r.length).map ([b] :: ·) else none) := HW.out
        have HFit := Lib.hid (fun W => fit_any W (b.toNat : Int) (lr.length : Int))
        have hi : ∀ W : World, (Instr.index 9 (.string (bs [b])) (.int .i64 0)).run Tryz.prog W = .ok (.int .u8 (b.toNat : Int)) W := fun W => index_bs [b] 0 (by simp) W
        have hbz : (bs [b]).size = 1 := bs_size [b]
        have hbl := UInt8.toNat_lt b
        rw [← hlr] at HW2
        have HLR := Lib.hid hlr
        clear hlr
        have hmem := fun h => fitP_mem (l := formsP (b.toNat : Int)) (m := (lr.length : Int)) h
        clear HW hd
        cases hq : (fitP (formsP (b.toNat : Int)) (lr.length : Int)).2 with
        | false =>
          rw [hq] at HW2 HFit
          have HW3 : Hid (formsW (t0 :: r) = none) := HW2.out
          clear HW2 hmem hq
          have HSB : Hid (∀ s, (∀ x, some [b] = some x → s = bs x) → s = bs [b]) := fun s h => h _ rfl
          generalize (fitP (formsP (b.toNat : Int)) (lr.length : Int)).1 = fx at *
          generalize bs [b] = P1 at *
          go_enter Tryz.func70, Tryz.ntmps70
          go_wp2_with fail
          go_at_call 114
          (with_reducible refine (HD.out _ (Below.refl _ _)).mono ?_)
          rintro e w1 ⟨b1, s, is, rfl, h6, h7⟩
          simp only [Option.isSome_some] at h6
          have h8 := HSB.out s h7
          clear h7
          subst h6 h8
          go_wp2_with (go_at_call 32; (with_reducible refine (HFit.out _).mono ?_); rintro e w2 ⟨rfl, b2⟩)
          go_ret2
          exact ⟨b1.trans (b2.mono b1.size), _, _, rfl, by rw [HW3.out]; rfl, fun fm h => by rw [HW3.out] at h; cases h⟩
        | true =>
          rw [hq, if_pos rfl] at HW2
          rw [hq] at HFit
          obtain ⟨hf1, hf2⟩ := hmem hq
          clear hmem hq
          generalize (fitP (formsP (b.toNat : Int)) (lr.length : Int)).1 = f at *
          have hlet := forms_letters hf1
          have hFl : (lettersOf f).length = lr.length := by
            have := bs_size (lettersOf f)
            rw [bs_letters] at this
            omega
          have hfz : f.size = lr.length := by omega
          have HNx : Hid (∀ (W : World) (k it : Nat), k < lr.length → W.heap[it]? = some (.stringIter f k) → ∀ ty, (Instr.next (.pointer (some ⟨it, 0, none⟩)) true ty).run Tryz.prog W = .ok (.tuple #[.bool true, .int .i64 k, .int .i32 (((lettersOf f).getD k 0).toNat : Int)]) (W.iterAt it f (k + 1))) := fun W k it hk hi ty => by
            have hkf : k < f.size := by omega
            have hk2 : k < (lettersOf f).length := by omega
            have hg : f[k]'hkf = (lettersOf f).getD k 0 := by
              rw [List.getD_eq_getElem?_getD, List.getElem?_eq_getElem hk2]
              simp [lettersOf, ByteArray.getElem_eq_getElem_data]
            have hasc : ((lettersOf f).getD k 0).toNat < 128 := by
              rw [List.getD_eq_getElem?_getD, List.getElem?_eq_getElem hk2]
              exact letters_ascii (hlet.2 _ (List.getElem_mem hk2))
            have := Lib.run_next_ascii_at (P := Tryz.prog) W it f k ty hi hkf (by rw [hg]; exact hasc)
            rw [hg] at this
            exact this
          have HNe : Hid (∀ (W : World) (it : Nat), W.heap[it]? = some (.stringIter f lr.length) → ∀ ty, (Instr.next (.pointer (some ⟨it, 0, none⟩)) true ty).run Tryz.prog W = .ok (.tuple #[.bool false]) W) := fun W it hi ty =>
            Lib.run_next_end_at (P := Tryz.prog) W it f lr.length ty hi (by omega)
          have HPf : Hid (∀ (k : Nat) (hk : k < lr.length) (W : World), Below w.heap.size w W → Calls Tryz.prog 115 #[.pointer (some ⟨A, 0, none⟩), .int .i32 (((lettersOf f).getD k 0).toNat : Int), .int .i64 (lr.getD k 0)] W (SomeS (formT ((lettersOf f).getD k 0) (r.getD k [])) W)) := fun k hk W hb => by
            have hkr : k < r.length := by rw [← HLR.out]; exact hk
            have := HTs.out.nth k hk hkr
            rw [show lr.getD k 0 = lr[k] by rw [List.getD_eq_getElem?_getD, List.getElem?_eq_getElem hk]; rfl]
            rw [show r.getD k [] = r[k] by rw [List.getD_eq_getElem?_getD, List.getElem?_eq_getElem hkr]; rfl]
            exact pForm_any (HA.out.below hb) hG this _
          have HCl : Hid (∀ (k : Nat) (hk : k < lr.length) (W : World), Below w.heap.size w W → W.cell? ⟨bk, off + (k + 1), none⟩ = some (.int .i64 (lr.getD k 0))) := fun k hk W hb =>
            (hb.cell (p := ⟨bk, off + (k + 1), none⟩) hbk).trans (HCe.out (k + 1) _ (by simp [List.getElem?_eq_getElem hk]))
          have HSB : Hid (∀ s, (∀ x, some [b] = some x → s = bs x) → s = bs [b]) := fun s h => h _ rfl
          obtain ⟨j0, hi0, hz0, hz1, hz2⟩ := info_parts infoStr
          clear hf1 hf2 hlet hFl hfz HCe HTs HA
          generalize hn : lr.length = n at *
          obtain ⟨P1, hP1⟩ : ∃ P1, P1 = bs [b] := ⟨_, rfl⟩
          have HP1 := Lib.hid hP1
          rw [← hP1] at hi hbz HSB
          clear hP1 hn
          go_enter Tryz.func70, Tryz.ntmps70
          go_wp2_with fail
          go_at_call 114
          (with_reducible refine (HD.out _ (Below.refl _ _)).mono ?_)
          rintro e w1 ⟨b1, s, is, rfl, h6, h7⟩
          simp only [Option.isSome_some] at h6
          have h8 := HSB.out s h7
          clear h7
          subst h6 h8
          go_wp2_with (go_at_call 32; (with_reducible refine (HFit.out _).mono ?_); rintro e w2 ⟨rfl, b2⟩)
          have hb2 : Below w.heap.size w w2 := b1.trans (b2.mono b1.size)
          have HB2 := Lib.hid hb2
          have hg5 := Holds.new w2 9 #[.string s]
          obtain ⟨W6, hW6⟩ : ∃ W6, W6 = w2.alloc (.cells #[.string s] 9) := ⟨_, rfl⟩
          rw [← hW6] at hg5
          have mA : Moves nobody w2 W6 := by rw [hW6]; exact (Moves.refl nobody w2).alloc _
          have hs6 : W6.heap.size = w2.heap.size + 1 := by rw [hW6]; simp
          have mI : Moves nobody W6 (W6.iter f 0) := (Moves.refl nobody W6).alloc _
          have hbI : Below w2.heap.size w2 (W6.iter f 0) := (mA.below (Nat.le_refl _) fun _ h => h.elim).trans (mI.below mA.size fun _ h => h.elim)
          have HInv : Hid (FInv w2 (w2.heap.size + 1) f b (lettersOf f) r 0 (.slice (some ⟨w2.heap.size, 0, none⟩) 1 1) (W6.iter f 0) []) := by
            refine ⟨rfl, hbI, ?_, by rw [← hs6]; exact World.iter_heap W6 f 0, by omega⟩
            refine rdOwn_moves (w := W6) ?_ mI fun i _ h => h
            exact ⟨rfl, .inr ⟨w2.heap.size, 1, _, rfl, Nat.le_refl _, hg5, Nat.le_refl _, by unfold maxLen; omega, by simp, by simp [strs, HP1.out]⟩⟩
          rw [← hW6]
          have hn0 : w2.heap.size ≤ w2.heap.size + 1 := by omega
          clear hg5 mA hs6 mI hbI hW6 b1 b2 hb2 hi hbz HD HFit c0 h0 q0 HSB
          generalize hit0 : w2.heap.size + 1 = it at *
          clear hit0
          generalize W6.iter f 0 = W7 at *
          go_loopw [9] (fun p wr => ∃ (k : Nat) (u : Value) (xs : List (List UInt8)), u = p ∧ k ≤ n ∧ FInv w2 it f b (lettersOf f) r k u wr xs) (fun _ wr => n - itPos wr it)
          case atStart => exact ⟨0, _, _, rfl, Nat.zero_le _, HInv.out⟩
          case round =>
            clear HInv
            obtain ⟨k, u, xs, hv0, hkn, hinv⟩ := hrel
            subst hv0
            have HIp := Lib.hid (itPos_eq hinv.itr)
            by_cases hlt : k < n
            · have hnx := HNx.out wr k it hlt hinv.itr
              have mi := iter_moves wr it f (k + 1)
              have own1 := rdOwn_moves hinv.own mi (fun i hi e => own_ne_iter hinv.own hinv.itr (by rw [hi, e]))
              have hB1 : Below w.heap.size w (wr.iterAt it f (k + 1)) := HB2.out.trans ((hinv.bel.trans (mi.below hinv.bel.size fun i hi => by rw [hi]; exact hinv.new)).mono HB2.out.size)
              have hsz1 : w2.heap.size ≤ (wr.iterAt it f (k + 1)).heap.size := by have := hinv.bel.size; rw [Lib.iterAt_size]; exact this
              have HPk := Lib.hid (HPf.out k hlt _ hB1)
              have HOwn : Hid (∀ (W : World), Below (wr.iterAt it f (k + 1)).heap.size (wr.iterAt it f (k + 1)) W → W.ownsRow w2.heap.size 9 1 u (k + 1) (strs (([b] :: xs).map bs))) := fun W hL => rdOwn_moves own1 (Moves.ofBelow (S := nobody) hL) (fun _ _ h => h)
              have HSt := Lib.hid (fun (w4 w3 : World) (x : List UInt8) (u' : Value) => FInv.step (w2 := w4) (w3 := w3) (x := x) (u' := u') hinv)
              have HStop := Lib.hid (fun h => mapFK_stop (F := lettersOf f) (ts := r) hlt h)
              have HSnoc : Hid (∀ x, strs (([b] :: xs).map bs) ++ [.string (bs x)] = strs (([b] :: (xs ++ [x])).map bs)) := fun x => by
                rw [← strs_snoc]
                simp
              obtain ⟨j, hj⟩ : ∃ j, j = k + 1 := ⟨_, rfl⟩
              have he1 : (1 : Int) + (k : Int) = (j : Int) := by omega
              have hj2 : j < nn := by omega
              have hj3 : j ≤ 32 := by omega
              have hc : (wr.iterAt it f (k + 1)).cell? ⟨bk, off + j, none⟩ = some (.int .i64 (lr.getD k 0)) := by rw [hj]; exact HCl.out k hlt _ hB1
              have HJ := Lib.hid hj
              have HSz := Lib.hid hsz1
              have HBw := Lib.hid hB1
              clear hinv mi own1 hB1 hsz1 hj
              generalize lr.getD k 0 = idk at *
              generalize hff : formT ((lettersOf f).getD k 0) (r.getD k []) = q at *
              generalize ((lettersOf f).getD k 0).toNat = kn at *
              generalize hWA : wr.iterAt it f (k + 1) = Wa at *
              generalize hSX : strs (([b] :: xs).map bs) = SX at *
              clear hWA hSX
              cases q with
              | none =>
                have HW3 : Hid (formsW (t0 :: r) = none) := by show _ = _; rw [HW2.out, HStop.out rfl]; rfl
                clear hff HSt HSnoc HOwn HStop HW2
                go_wp2_with fail
                go_at_call 115
                (with_reducible refine HPk.out.mono ?_)
                rintro e w4 ⟨b4, s4, is4, rfl, h6, _⟩
                simp only [Option.isSome_none] at h6
                subst h6
                go_wp2_with fail
                try simp only [Exit.inBlock, Exit.then]
                go_ret2
                exact ⟨HBw.out.trans (b4.mono HBw.out.size), _, _, rfl, by rw [HW3.out]; rfl, fun fm h => by rw [HW3.out] at h; cases h⟩
              | some x =>
                have HFF := Lib.hid hff
                clear hff HStop
                go_wp2_with fail
                go_at_call 115
                (with_reducible refine HPk.out.mono ?_)
                rintro e w4 ⟨b4, s4, is4, rfl, h6, h7⟩
                simp only [Option.isSome_some] at h6
                have h8 := h7 x rfl
                clear h7
                have H8 := Lib.hid h8
                clear h8
                subst h6
                have hown4 := HOwn.out _ b4
                have hW4 : w2.heap.size ≤ w4.heap.size := Nat.le_trans HSz.out b4.size
                go_wp2_with (first
                  | (at_builtin; refine wpList_append_own _ rfl (.tmp 65) (.tmp 67) 28 rfl w2.heap.size 9 j0 (.string ⟨#[]⟩) 1 16 Tryz.underlying28 hi0 hz0 hz1 hz2 rfl (by decide) _ _ _ rfl (hown4.alloc _) ⟨w4.heap.size, 0, none⟩ 1 1 [.string s4] rfl rfl (cell_one_new _ _ _) (str_one s4) (by unfold maxLen; omega) (by omega) (by simp; omega) ?_))
                intro v' w3 hown3 hg3 _
                have m' : Moves (fun i => u.ownBlock = some i) w4 w3 := ((Moves.refl _ w4).alloc _).grown hg3 fun i hi => .inl hi
                have hinv3 := HSt.out w4 w3 x v' rfl b4 m' (by rw [← HSnoc.out, ← H8.out]; exact hown3)
                have HInv3 := Lib.hid hinv3
                clear hinv3 m' hown3 hg3 hown4 HOwn
                go_wp2_with fail
                go_roundw
                case rel => exact ⟨k + 1, _, _, rfl, by omega, HInv3.out⟩
                case measure =>
                  have h1 := HIp.out
                  have h2 := itPos_eq HInv3.out.itr
                  rw [h1, h2]
                  omega
            · have hkn2 : k = n := by omega
              subst hkn2
              have hnx := HNe.out wr it hinv.itr
              have hfw : formsW (t0 :: r) = some ([b] :: xs) := by rw [HW2.out, hinv.forms]; rfl
              have hxl := mapFK_len hinv.forms
              have HBw : Hid (Below w.heap.size w wr) := HB2.out.trans (hinv.bel.mono HB2.out.size)
              have HTx : Hid (TextsAt wr u (([b] :: xs).map bs)) := TextsAt.ofRow (by rw [List.length_map, List.length_cons, hxl]; exact hinv.own) (fun e => by simp at e)
              have HC : Hid (∃ ao cap, u = .slice ao (k + 1) cap ∧ k + 1 ≤ cap) := by
                rcases hinv.own.2 with ⟨_, h0⟩ | ⟨g, cap, cur, hv, _, _, hcap, _⟩
                · omega
                · exact ⟨_, cap, hv, hcap⟩
              have HFw := Lib.hid hfw
              have HXl := Lib.hid hxl
              clear hinv hfw hxl hlt HW2 HPf HCl HNx HNe
              obtain ⟨ao, cap, rfl, hcap⟩ := HC.out
              have HCp := Lib.hid hcap
              clear hcap
              go_wp2_with fail
              go_ret2
              refine ⟨HBw.out, _, _, rfl, by rw [HFw.out]; rfl, fun fm h => ?_⟩
              rw [HFw.out] at h
              injection h with h
              subst h
              exact ⟨ao, cap, by rw [List.length_cons, HXl.out]; rfl, by rw [List.length_cons, HXl.out]; exact HCp.out, HTx.out⟩
      · have HW2 : Hid (formsW (t0 :: r) = none) := by
          show _ = _
          rw [HW.out]
          match s0, hs1 with
          | [], _ => rfl
          | [x], h => exact absurd rfl h
          | x :: y :: z, _ => rfl
        have HSZ : Hid (∀ s, (∀ x, some s0 = some x → s = bs x) → ((s.size : Int) != 1) = true) := fun s h => by rw [h _ rfl, bs_size, bne_iff_ne]; omega
        clear HW hd hs1
        go_enter Tryz.func70, Tryz.ntmps70
        go_wp2_with fail
        go_at_call 114
        (with_reducible refine (HD.out _ (Below.refl _ _)).mono ?_)
        rintro e w1 ⟨b1, s, is, rfl, h6, h7⟩
        simp only [Option.isSome_some] at h6
        have hsz := HSZ.out s h7
        clear h7
        subst h6
        go_wp2_with fail
        go_ret2
        exact ⟨b1, _, _, rfl, by rw [HW2.out]; rfl, fun fm h => by rw [HW2.out] at h; cases h⟩
end Go.Proofs.YtlalkpgipenkaaaGreatDoor

namespace Go.Proofs.YtlalkpgipenkaaaGreatDoor
open Go.RowKit

def hasP (x : FieldR) (y : List UInt8) : Bool := (valueP x).2 && decide ((valueP x).1 = y)
theorem hasP_iff (x : FieldR) (y : List UInt8) : hasP x y = true ↔ valueP x = (y, true) := by
  unfold hasP
  rw [Bool.and_eq_true, decide_eq_true_eq]
  constructor
  · rintro ⟨h1, h2⟩; exact Prod.ext h2 h1
  · intro h; rw [h]; exact ⟨rfl, rfl⟩
theorem bsEq (a b : List UInt8) : ((bs a).toList == (bs b).toList) = decide (a = b) := by
  have h : ∀ l : List UInt8, (bs l).toList = l := fun l => by rw [ByteArray.toList_eq]; simp [bs]
  rw [h, h, Bool.eq_iff_iff, beq_iff_eq, decide_eq_true_eq]

set_option maxRecDepth 100000 in
theorem pHas_any {w : World} {x : FieldR} {v : Value} (hv : TextsAt w v (x.l.map bs)) (hcap : Roomy v x.l.length) (hx : FieldSm 32767 x) (y : List UInt8) :
    Calls Tryz.prog 73 #[fieldV x v, .string (bs y)] w fun e w' => e = .returned (.bool (hasP x y)) ∧ Below w.heap.size w w' := by
  have HV := Lib.hid (fun (W : World) (hb : Below w.heap.size w W) => value_any (hv.below hb) hcap (hx.ok (Nat.le_refl _)))
  have hE := bsEq (valueP x).1 y
  have HP : Hid (hasP x y = ((valueP x).2 && decide ((valueP x).1 = y))) := rfl
  obtain ⟨ao, cap, rfl, _⟩ := hv
  unfold fieldV at *
  have HBx := Lib.hid ((Below.refl w.heap.size w).alloc (Nat.le_refl _) (.cells #[.int .u8 (x.kind.toNat : Int), .int .i64 x.n, .string (bs x.s), .slice ao (x.l.map bs).length cap] 81))
  generalize decide ((valueP x).1 = y) = q at *
  generalize hasP x y = hp at *
  generalize bs (valueP x).1 = V at *
  generalize (valueP x).2 = V2 at *
  generalize bs x.s = S at *
  generalize bs y = Y at *
  generalize (x.l.map bs).length = ml at *
  generalize x.kind.toNat = kn at *
  cases V2 with
  | false =>
    clear hE
    go_enter Tryz.func73, Tryz.ntmps73
    go_wp2_with (go_at_call 86; (with_reducible refine (HV.out _ HBx.out).mono ?_); rintro e w1 ⟨rfl, b1⟩)
    go_ret
    exact ⟨by rw [HP.out]; rfl, HBx.out.trans (b1.mono HBx.out.size)⟩
  | true =>
    go_enter Tryz.func73, Tryz.ntmps73
    go_wp2_with (go_at_call 86; (with_reducible refine (HV.out _ HBx.out).mono ?_); rintro e w1 ⟨rfl, b1⟩)
    go_ret
    exact ⟨by rw [HP.out]; rfl, HBx.out.trans (b1.mono HBx.out.size)⟩

def eqP (fs : List FieldR) (ys : List (List UInt8)) : Bool := decide (fs.map valueP = ys.map fun y => (y, true))
theorem eqP_len {fs : List FieldR} {ys : List (List UInt8)} (h : fs.length ≠ ys.length) : eqP fs ys = false := decide_eq_false fun e => h (by have := congrArg List.length e; simpa using this)
theorem eqP_no {fs : List FieldR} {ys : List (List UInt8)} {k : Nat} {x : FieldR} {y : List UInt8} (hx : fs[k]? = some x) (hy : ys[k]? = some y) (h : hasP x y = false) : eqP fs ys = false := decide_eq_false fun e => by
  have h1 : (fs.map valueP)[k]? = some (valueP x) := by rw [List.getElem?_map, hx]; rfl
  rw [e, List.getElem?_map, hy] at h1
  injection h1 with h1
  have := (hasP_iff x y).2 h1.symm
  rw [h] at this; cases this
theorem eqP_yes {fs : List FieldR} {ys : List (List UInt8)} (hl : fs.length = ys.length) (h : ∀ (k : Nat) (x : FieldR) (y : List UInt8), fs[k]? = some x → ys[k]? = some y → hasP x y = true) : eqP fs ys = true := decide_eq_true (by
  apply List.ext_getElem (by simpa using hl)
  intro k h1 h2
  rw [List.getElem_map, List.getElem_map]
  simp only [List.length_map] at h1 h2
  exact (hasP_iff _ _).1 (h k _ _ (List.getElem?_eq_getElem h1) (List.getElem?_eq_getElem h2)))

set_option maxHeartbeats 2000000 in
set_option maxRecDepth 100000 in
theorem eqFunc_any {w : World} {v u : Value} {fs : List FieldR} {ys : List (List UInt8)} (hv : FieldsAt w v fs) (hu : TextsAt w u (ys.map bs)) (hs : ∀ x ∈ fs, FieldSm 32767 x) (hf : fs.length ≤ 1000) (hy : ys.length ≤ 1000) :
    Calls Tryz.prog 72 #[v, u, .func (.func 73) #[] #[]] w fun e w' => e = .returned (.bool (eqP fs ys)) ∧ Below w.heap.size w w' := by
  obtain ⟨ao, cap, rfl, hcap, _, _, hcells⟩ := hv
  obtain ⟨au, cu, rfl, hcu⟩ := hu
  rw [List.length_map]
  by_cases hl : fs.length = ys.length
  · have HK := Lib.hid hcells
    have HU := Lib.hid hcu
    have HLe := Lib.hid hl
    have HSm := Lib.hid hs
    rw [← hl]
    have HY := Lib.hid (fun (h : ∀ (k : Nat) (x : FieldR) (y : List UInt8), fs[k]? = some x → ys[k]? = some y → hasP x y = true) => eqP_yes hl h)
    clear hl hcells hcu hs hy
    generalize hn : fs.length = n at *
    have HN := Lib.hid hn
    clear hn
    go_enter Tryz.func72, Tryz.ntmps72
    go_wp2_with fail
    go_loopw [17] (fun i wr => ∃ k : Nat, k ≤ n ∧ i = .int .i64 k ∧ (∀ (j : Nat) (x : FieldR) (y : List UInt8), j < k → fs[j]? = some x → ys[j]? = some y → hasP x y = true) ∧ Below w.heap.size w wr) (fun i _ => n - (intOf i).toNat)
    case atStart => exact ⟨0, Nat.zero_le _, rfl, fun j x y h => absurd h (by omega), Below.refl _ _⟩
    case round =>
      obtain ⟨k, hk, rfl, hall, hB⟩ := hrel
      by_cases hlt : k < n
      · have hkf : k < fs.length := by rw [HN.out]; exact hlt
        have hky : k < ys.length := by rw [← HLe.out]; exact hlt
        obtain ⟨bF, off, rfl, hbF, hat⟩ := HK.out (fun e => by rw [e] at hkf; simp at hkf)
        obtain ⟨bU, ou, rfl, hbU, hau⟩ := HU.out (fun e => by have := congrArg List.length e; simp at this; rw [this] at hky; simp at hky)
        obtain ⟨y0, y1, y2, a2, cap2, y3, hcap2, hT2⟩ := (hat k _ (List.getElem?_eq_getElem hkf)).below hbF hB
        have c1 : wr.cell? ⟨bU, ou + k, none⟩ = some (.string (bs (ys[k]'hky))) := (hB.cell (p := ⟨bU, ou + k, none⟩) hbU).trans (hau k _ (by rw [List.getElem?_map, List.getElem?_eq_getElem hky]; rfl))
        have hfk : fs[k]? = some fs[k] := List.getElem?_eq_getElem hkf
        have hyk : ys[k]? = some ys[k] := List.getElem?_eq_getElem hky
        have hmem : fs[k] ∈ fs := List.getElem_mem hkf
        have HPh := Lib.hid (fun (W : World) (hb : Below wr.heap.size wr W) => pHas_any (hT2.below hb) (fun ao'' cap'' e => by injection e with _ _ e; omega) (HSm.out _ hmem) (ys[k]'hky))
        have HNo := Lib.hid (fun (h : hasP (fs[k]'hkf) (ys[k]'hky) = false) => eqP_no hfk hyk h)
        have HAll : Hid (hasP (fs[k]'hkf) (ys[k]'hky) = true → ∀ (j : Nat) (x : FieldR) (y : List UInt8), j < k + 1 → fs[j]? = some x → ys[j]? = some y → hasP x y = true) := fun h j x y hj h1 h2 => by
          by_cases hjk : j = k
          · subst hjk
            rw [hfk] at h1; rw [hyk] at h2
            injection h1 with h1; injection h2 with h2
            rw [← h1, ← h2]; exact h
          · exact hall j x y (by omega) h1 h2
        have HB := Lib.hid hB
        clear hat hau hT2 hall hB hfk hyk hmem HK HU hcap2
        generalize hh : hasP (fs[k]'hkf) (ys[k]'hky) = hp at *
        clear hh
        generalize fs[k]'hkf = x at *
        generalize ys[k]'hky = y at *
        clear hkf hky
        unfold fieldV at HPh
        obtain ⟨kd, xn, xs, xl⟩ := x
        simp only at HPh y0 y1 y2 y3
        have HBx := Lib.hid ((Below.refl wr.heap.size wr).alloc (Nat.le_refl _) (.cells #[.int .u8 (kd.toNat : Int), .int .i64 xn, .string (bs xs), .slice a2 xl.length cap2] 81))
        have c2 : (wr.alloc (.cells #[.int .u8 (kd.toNat : Int), .int .i64 xn, .string (bs xs), .slice a2 xl.length cap2] 81)).cell? ⟨bU, ou + k, none⟩ = some (.string (bs y)) := (HBx.out.cell (p := ⟨bU, ou + k, none⟩) (World.block_lt_of_cell? wr _ c1)).trans c1
        clear c1
        generalize bs xs = XS at *
        generalize bs y = Y at *
        generalize xl.length = xll at *
        generalize kd.toNat = kn at *
        cases hp with
        | false =>
          have HNN : Hid (eqP fs ys = false) := HNo.out rfl
          clear HNo HAll
          go_wp2_with (go_at_call 73; (with_reducible refine (HPh.out _ HBx.out).mono ?_); rintro e w4 ⟨rfl, b4⟩)
          try simp only [Exit.inBlock, Exit.then]
          go_ret
          exact ⟨by rw [HNN.out]; rfl, HB.out.trans ((HBx.out.trans (b4.mono HBx.out.size)).mono HB.out.size)⟩
        | true =>
          clear HNo
          go_wp2_with (go_at_call 73; (with_reducible refine (HPh.out _ HBx.out).mono ?_); rintro e w4 ⟨rfl, b4⟩)
          go_roundw
          case rel => exact ⟨k + 1, by omega, by go_num, HAll.out (by trivial), HB.out.trans ((HBx.out.trans (b4.mono HBx.out.size)).mono HB.out.size)⟩
          case measure => simp [intOf]; omega
      · have hkn : k = n := by omega
        have HYY : Hid (eqP fs ys = true) := HY.out fun j x y h1 h2 => hall j x y (by rw [hkn, ← HN.out]; exact (List.getElem?_eq_some_iff.1 h1).1) h1 h2
        subst hkn
        have HB := Lib.hid hB
        clear hall hB HY HK HU hlt
        go_wp2_with fail
        go_ret
        exact ⟨by rw [HYY.out]; rfl, HB.out⟩
  · have HE := Lib.hid (eqP_len hl)
    have q : ((fs.length : Int) != (ys.length : Int)) = true := by rw [bne_iff_ne]; omega
    clear hl hcells hcu
    generalize fs.length = n at *
    generalize ys.length = m at *
    go_enter Tryz.func72, Tryz.ntmps72
    go_wp2_with fail
    go_ret
    exact ⟨by rw [HE.out]; rfl, Below.refl _ _⟩
end Go.Proofs.YtlalkpgipenkaaaGreatDoor

namespace Go.Proofs.YtlalkpgipenkaaaGreatDoor
open Go.RowKit

def unparsedT (s : List UInt8) : Option (List UInt8) := if 32768 < s.length then none else if (msgP s).isSome = true then none else some s
set_option maxRecDepth 100000 in
theorem pUnparsed_any {w : World} (s : List UInt8) (hs : s.length ≤ 1000000) (hT : TabAt w) (hV : VarAt w) :
    Calls Tryz.prog 25 #[.string (bs s)] w (SomeS (unparsedT s) w) := by
  have hsz := bs_size s
  by_cases hl : 32768 < s.length
  · have hq : unparsedT s = none := if_pos hl
    rw [hq]
    clear hq
    generalize bs s = S at *
    go_enter Tryz.func25, Tryz.ntmps25
    go_wp2_with fail
    go_ret2
    exact ⟨Below.refl _ _, _, _, rfl, rfl, fun x h => by cases h⟩
  · have hq : unparsedT s = if (msgP s).isSome = true then none else some s := if_neg hl
    have HQ := Lib.hid hq
    generalize unparsedT s = q at *
    have HD := Lib.hid (gdec_any s (by omega) hT hV)
    have HSS : Hid (∃ S, S = bs s) := ⟨_, rfl⟩
    obtain ⟨S, hS⟩ := HSS.out
    have HS := Lib.hid hS
    rw [← hS] at HD hsz ⊢
    clear hq hS hT hV HSS
    go_enter Tryz.func25, Tryz.ntmps25
    go_wp2_with fail
    go_at_call 31
    (refine HD.out.mono ?_)
    rintro e w1 ⟨b1, hc⟩
    clear HD
    rcases hc with ⟨b, f, r, v, hm, rfl, hk⟩ | ⟨hm, t, u, rfl⟩
    · obtain ⟨ao, cap, hv0, _⟩ := hk.now
      subst hv0
      have HM := Lib.hid hm
      have HB := Lib.hid (b1.alloc b1.size (.cells #[.int .i64 (b.toNat : Int), .slice ao (fieldsF f r).length cap] 72))
      clear hm hk b1
      unfold msgV
      generalize (fieldsF f r).length = n at *
      go_wp2_with fail
      go_ret2
      have hq : q = none := by rw [HQ.out, HM.out]; rfl
      rw [hq]
      exact ⟨HB.out, _, _, rfl, rfl, fun x h => by cases h⟩
    · have HM := Lib.hid hm
      have HB := Lib.hid (b1.alloc b1.size (.cells #[.int .i64 0, .slice none 0 0] 72))
      clear hm b1
      unfold zeroM
      go_wp2_with fail
      go_ret2
      have hq : q = some s := by rw [HQ.out, HM.out]; rfl
      rw [hq]
      exact ⟨HB.out, _, _, rfl, rfl, fun x h => by injection h with h'; rw [← h', HS.out]⟩

/-- What a list of parts is as a payload. -/
def joinedT (ts : List (List UInt8)) : Option (List UInt8) := match formsW ts with
  | none => none
  | some fm => match msgP fm.flatten with
    | none => none
    | some (_, f, s) => if eqP (fieldsF f s) (fm.drop 1) = true then some fm.flatten else none
theorem join_nil : ∀ l : List (List UInt8), Lib.join l [] = l.flatten
  | [] => rfl
  | [x] => by rw [Lib.join_one]; simp
  | x :: y :: r => by
    have := join_nil (y :: r)
    rw [List.flatten_cons, ← this]
    rfl
end Go.Proofs.YtlalkpgipenkaaaGreatDoor
