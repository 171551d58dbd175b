/- Part 35 of what the statement wants. -/
import Derived.Deep.RegionWith
import Derived.Deep.QuietTactic
import Derived.BigQuiet
import Derived.Test.YtlalkpgipenkaaaGreatDoorPk15
import Derived.Test.YtlalkpgipenkaaaGreatDoorPk32
import Derived.Test.YtlalkpgipenkaaaGreatDoorPk34
namespace Go.Proofs.YtlalkpgipenkaaaGreatDoor
open Go.RowKit

set_option maxRecDepth 100000 in
theorem tail_run (bU ou n cap : Nat) (hn : 1 ≤ n) (hc : n ≤ cap) (W : World) : (Instr.slice 28 (.slice (some ⟨bU, ou, none⟩) n cap) (some (.int .i64 1)) none none).run Tryz.prog W = .ok (.slice (some ⟨bU, if cap = 1 then ou else ou + 1, none⟩) (n - 1) (cap - 1)) W := by
  have h := run_slice_l (P := Tryz.prog) (w := W) 28 (some ⟨bU, ou, none⟩) n cap Tryz.underlying28 .i64 1 (by omega) (by omega)
  rw [h]
  have : (sizeOf (Tryz.prog.elem 28)).run Tryz.prog W = .ok 1 W := rfl
  rw [this]
  simp only [Result.andThen_ok]
  unfold sliced
  by_cases hk : cap = 1
  · subst hk
    rfl
  · have h1 : ¬ cap = (1 : Int).toNat := hk
    rw [if_neg h1, if_neg hk]
    rfl
theorem dataT_len {L : List Ent} (hG : Good L) {i : Int} {t x : List UInt8} (ht : TAt L i t) (h : dataT t = some x) : x.length ≤ 131072 := by
  have := TAt.short hG ht
  unfold dataT at h
  split at h
  · injection h with h; rw [← h, List.length_drop]; omega
  · cases h
theorem formT_len {L : List Ent} (hG : Good L) {i : Int} {t x : List UInt8} {k : UInt8} (ht : TAt L i t) (h : formT k t = some x) : x.length ≤ 131076 := by
  have hs := TAt.short hG ht
  unfold formT at h
  split at h
  · cases hf : fbT t with
    | none => rw [hf] at h; cases h
    | some y =>
      rw [hf] at h
      injection h with h
      have hy : y.length ≤ 131072 := by
        unfold fbT at hf
        split at hf
        · cases hf
        · split at hf
          · injection hf with hf; rw [← hf]; exact hs
          · split at hf
            · cases hf
            · injection hf with hf; rw [← hf, List.length_drop]; omega
      rw [← h]
      simp [cnt, pack4]; omega
  · have := dataT_len hG ht h
    omega
theorem mapFK_lens {L : List Ent} (hG : Good L) {F : List UInt8} {l : List Int} {ts : List (List UInt8)} (hT : TAts L l ts) : ∀ (k : Nat) (xs : List (List UInt8)), k ≤ ts.length → mapFK F ts k = some xs → xs.flatten.length ≤ k * 131076
  | 0, xs, _, h => by
    have h' : some [] = some xs := h
    injection h' with h'
    rw [← h']; simp
  | k + 1, xs, hk, h => by
    have h' : (match mapFK F ts k, formT (F.getD k 0) (ts.getD k []) with | some xs, some x => some (xs ++ [x]) | _, _ => none) = some xs := h
    cases h1 : mapFK F ts k with
    | none => rw [h1] at h'; cases h'
    | some ys =>
      cases h2 : formT (F.getD k 0) (ts.getD k []) with
      | none => rw [h1, h2] at h'; cases h'
      | some y =>
        rw [h1, h2] at h'
        injection h' with h'
        have ih := mapFK_lens hG hT k ys (by omega) h1
        have hkl : k < l.length := by rw [hT.length]; omega
        rw [show ts.getD k [] = ts[k]'(by omega) by rw [List.getD_eq_getElem?_getD, List.getElem?_eq_getElem (by omega)]; rfl] at h2
        have := formT_len hG (hT.nth k hkl (by omega)) h2
        rw [← h', List.flatten_append, List.length_append]
        simp only [List.flatten_cons, List.flatten_nil, List.append_nil]
        rw [Nat.add_mul]
        omega
theorem formsW_facts {L : List Ent} (hG : Good L) {l : List Int} {ts : List (List UInt8)} (hT : TAts L l ts) (hl : l.length ≤ 32) {fm : List (List UInt8)} (h : formsW ts = some fm) : ∃ b xs, fm = [b] :: xs ∧ fm.flatten.length ≤ 5000000 ∧ fm.length ≤ 32 := by
  cases hT with
  | nil => cases h
  | @cons i0 t0 lr r h0 hr =>
    rw [formsW_cons] at h
    cases hd : dataT t0 with
    | none => rw [hd] at h; cases h
    | some s0 =>
      rw [hd] at h
      match s0 with
      | [] => cases h
      | _ :: _ :: _ => cases h
      | [b] =>
        have h' : (if (fitP (formsP (b.toNat : Int)) (r.length : Int)).2 = true then (mapFK (lettersOf (fitP (formsP (b.toNat : Int)) (r.length : Int)).1) r r.length).map ([b] :: ·) else none) = some fm := h
        split at h'
        · cases hm : mapFK (lettersOf (fitP (formsP (b.toNat : Int)) (r.length : Int)).1) r r.length with
          | none => rw [hm] at h'; cases h'
          | some xs =>
            rw [hm] at h'
            injection h' with h'
            have h1 := mapFK_lens hG hr _ xs (Nat.le_refl _) hm
            have h2 := mapFK_len hm
            have h3 := hr.length
            rw [List.length_cons] at hl
            have h4 : r.length * 131076 ≤ 31 * 131076 := Nat.mul_le_mul_right _ (by omega)
            refine ⟨b, xs, h'.symm, ?_, ?_⟩
            · rw [← h', List.flatten_cons, List.length_append, List.length_singleton]
              omega
            · rw [← h', List.length_cons]; omega
        · cases h'

set_option maxHeartbeats 4000000 in
set_option maxRecDepth 100000 in
theorem pJoined_any {B A : Nat} {L : List Ent} {F : Nat → Prop} {w : World} (ha : ArenaAt B A L F w) (hG : Good L) {v : Value} {l : List Int} {ts : List (List UInt8)} (hv : IdsAt w v l) (hT : TAts L l ts) (hl : l.length ≤ 32) (hTab : TabAt w) (hV : VarAt w) :
    Calls Tryz.prog 26 #[.pointer (some ⟨A, 0, none⟩), v] w (SomeS (joinedT ts) w) := by
  have HP := Lib.hid (pForms_any ha hG hv hT hl)
  have HFa := Lib.hid (fun fm (h : formsW ts = some fm) => formsW_facts hG hT hl h)
  have HJ : Hid (joinedT ts = match formsW ts with
    | none => none
    | some fm => match msgP fm.flatten with
      | none => none
      | some (_, f, s) => if eqP (fieldsF f s) (fm.drop 1) = true then some fm.flatten else none) := rfl
  have HTab := Lib.hid hTab
  have HV := Lib.hid hV
  have hgm := hV.pos
  obtain ⟨ao, cap, rfl, _⟩ := hv
  clear ha hG hT hl hTab hV
  generalize joinedT ts = q at *
  cases hf : formsW ts with
  | none =>
    rw [hf] at HJ
    have HQ : Hid (q = none) := HJ.out
    have HFw := Lib.hid hf
    clear HJ HFa hf
    go_enter Tryz.func26, Tryz.ntmps26
    go_wp2_with fail
    go_at_call 70
    (with_reducible refine HP.out.mono ?_)
    rintro e w1 ⟨b1, u, is, rfl, h6, _⟩
    rw [HFw.out] at h6
    simp only [Option.isSome_none] at h6
    subst h6
    go_wp2_with fail
    go_ret2
    rw [HQ.out]
    exact ⟨b1, _, _, rfl, rfl, fun x h => by cases h⟩
  | some fm =>
    rw [hf] at HJ
    obtain ⟨b, xs, hfm, hfl, hfn⟩ := HFa.out fm hf
    have hpz := bs_size fm.flatten
    have HD : Hid (∀ W, Below w.heap.size w W → Calls Tryz.prog 31 #[.string (bs fm.flatten)] W (GdPost fm.flatten W)) := fun W hb => gdec_any _ (by omega) (HTab.out.below hb) (HV.out.below hb hgm)
    have hmm : (fm.map bs).map (·.data.toList) = fm := by
      rw [List.map_map]
      exact (List.map_congr_left fun x _ => by simp [bs]).trans (List.map_id fm)
    have HJo : Hid (∀ (W : World) (bU ou cap : Nat), TextsAt W (.slice (some ⟨bU, ou, none⟩) fm.length cap) (fm.map bs) → fm.length ≤ cap → Calls Tryz.prog 71 #[.slice (some ⟨bU, ou, none⟩) fm.length cap, .string ⟨#[]⟩] W fun e w' => e = .returned (.string (bs fm.flatten)) ∧ Below W.heap.size W w') := fun W bU ou cap hT hc => by
      obtain ⟨a', c', e, hcell⟩ := hT
      injection e with e1 _ e3
      subst e1 e3
      obtain ⟨b', o', e2, hbl, hcc⟩ := hcell (by rw [hfm]; simp)
      injection e2 with e2
      injection e2 with e4 e5
      subst e4 e5
      have := Tryz.strings_Join bU ou cap (fm.map bs) ⟨#[]⟩ W (fun j y hj => hcc j y hj) hbl (by rw [List.length_map]; omega) (by rw [List.length_map]; exact hc) (by rw [hmm]; show (Lib.join fm []).length ≤ _; rw [join_nil]; omega)
      rw [hmm, List.length_map] at this
      have e6 : Lib.join fm (⟨#[]⟩ : ByteArray).data.toList = fm.flatten := join_nil fm
      rw [e6] at this
      exact this
    have hd1 : fm.drop 1 = xs := by rw [hfm]; rfl
    have hl1 : fm.length = xs.length + 1 := by rw [hfm]; rfl
    have HTl : Hid (∀ (W : World) (bU ou cap : Nat), TextsAt W (.slice (some ⟨bU, ou, none⟩) fm.length cap) (fm.map bs) → fm.length ≤ cap → ∃ o', (∀ W' : World, (Instr.slice 28 (.slice (some ⟨bU, ou, none⟩) fm.length cap) (some (.int .i64 1)) none none).run Tryz.prog W' = .ok (.slice (some ⟨bU, o', none⟩) xs.length (cap - 1)) W') ∧ TextsAt W (.slice (some ⟨bU, o', none⟩) xs.length (cap - 1)) (xs.map bs)) := fun W bU ou cap hT hc => by
      obtain ⟨a', c', e, hcell⟩ := hT
      injection e with e1 _ e3
      subst e1 e3
      obtain ⟨b', o', e2, hbl, hcc⟩ := hcell (by rw [hfm]; simp)
      injection e2 with e2
      injection e2 with e4 e5
      subst e4 e5
      refine ⟨if cap = 1 then ou else ou + 1, fun W' => by rw [tail_run bU ou fm.length cap (by omega) hc W', hl1]; rfl, some ⟨bU, if cap = 1 then ou else ou + 1, none⟩, cap - 1, by rw [List.length_map], fun hne => ⟨bU, _, rfl, hbl, fun k x hk => ?_⟩⟩
      have hkl : k < xs.length := by
        have := (List.getElem?_eq_some_iff.1 hk).1
        simpa using this
      rw [if_neg (by omega), show ou + 1 + k = ou + (k + 1) by omega]
      exact hcc (k + 1) x (by rw [hfm]; simpa using hk)
    have HJ2 : Hid (q = match msgP fm.flatten with
      | none => none
      | some (_, f, s) => if eqP (fieldsF f s) xs = true then some fm.flatten else none) := by
      have h := HJ.out
      rw [← hd1]
      exact h
    have HFw := Lib.hid hf
    have HFm := Lib.hid hfm
    have hxs : xs.length ≤ 1000 := by omega
    clear HFa hf hmm hd1 hfm HJ hl1
    generalize hN : fm.length = nf at *
    have HN := Lib.hid hN
    clear hN
    have hP1 : ∃ P1, P1 = bs fm.flatten := ⟨_, rfl⟩
    obtain ⟨P1, hP1⟩ := hP1
    have HP1 := Lib.hid hP1
    rw [← hP1] at HD HJo hpz
    clear hP1
    go_enter Tryz.func26, Tryz.ntmps26
    go_wp2_with fail
    go_at_call 70
    (with_reducible refine HP.out.mono ?_)
    rintro e w1 ⟨b1, u, is, rfl, h6, h7⟩
    rw [HFw.out] at h6
    simp only [Option.isSome_some] at h6
    obtain ⟨au, cu, rfl, hcu, hTx⟩ := h7 fm HFw.out
    clear h7
    subst h6
    have hau : ∃ bU ou, au = some ⟨bU, ou, none⟩ := by
      obtain ⟨a', c', e, hcell⟩ := hTx
      injection e with e1 _ _
      subst e1
      obtain ⟨b', o', e2, _, _⟩ := hcell (by rw [HFm.out]; simp)
      exact ⟨b', o', e2⟩
    obtain ⟨bU, ou, rfl⟩ := hau
    rw [HN.out] at hcu hTx ⊢
    have HJ1 := Lib.hid (HJo.out w1 bU ou cu hTx hcu)
    have HT1 := Lib.hid (fun (W : World) (hb : Below w1.heap.size w1 W) => HTl.out W bU ou cu (hTx.below hb) hcu)
    have HB1 := Lib.hid b1
    clear HJo HTl hTx b1
    go_wp2_with (go_at_call 71; (with_reducible refine HJ1.out.mono ?_); rintro e w2 ⟨rfl, b2⟩)
    have hB2 : Below w.heap.size w w2 := HB1.out.trans (b2.mono HB1.out.size)
    have HD2 := Lib.hid (HD.out w2 hB2)
    have HB2 := Lib.hid hB2
    have Hb2 := Lib.hid b2
    clear hB2 b2 HD
    go_wp2_with fail
    go_at_call 31
    (with_reducible refine HD2.out.mono ?_)
    rintro e w3 ⟨b3, hc⟩
    have hB3 : Below w.heap.size w w3 := HB2.out.trans (b3.mono HB2.out.size)
    have h13 : Below w1.heap.size w1 w3 := Hb2.out.trans (b3.mono Hb2.out.size)
    have HB3 := Lib.hid hB3
    have H13 := Lib.hid h13
    clear hB3 h13 b3 HD2
    rcases hc with ⟨b', f, r, v, hm, rfl, hk⟩ | ⟨hm, t, z, rfl⟩
    · have hsm : ∀ x ∈ fieldsF f r, FieldSm 32767 x := fun x hx => ((msgP_parts hm).2.2.2.small x hx).mono (msgP_parts hm).2.1
      have hfl : (fieldsF f r).length ≤ 1000 := by
        have h1 := (msgP_parts hm).2.2.2.len
        have h2 := (msgP_parts hm).2.2.2.few
        omega
      obtain ⟨ao3, cap3, hv0, _⟩ := hk.now
      have hq : q = if eqP (fieldsF f r) xs = true then some fm.flatten else none := by rw [HJ2.out, hm]
      have HQ := Lib.hid hq
      have hFA := hk.now
      have h34 : Below w3.heap.size w3 (w3.alloc (.cells #[.int .i64 (b'.toNat : Int), v] 72)) := (Below.refl _ w3).alloc (Nat.le_refl _) _
      obtain ⟨o', hrun, _⟩ := HT1.out w3 H13.out
      have HTx : Hid (∀ W, Below w3.heap.size w3 W → TextsAt W (.slice (some ⟨bU, o', none⟩) xs.length (cu - 1)) (xs.map bs)) := fun W hb => by
        obtain ⟨o2, hrun2, hT2⟩ := HT1.out W (H13.out.trans (hb.mono H13.out.size))
        have := (hrun W).symm.trans (hrun2 W)
        injection this with this
        injection this with this
        injection this with this
        injection this with _ this
        rw [this]
        exact hT2
      have HEq : Hid (∀ W, Below w3.heap.size w3 W → Calls Tryz.prog 72 #[v, .slice (some ⟨bU, o', none⟩) xs.length (cu - 1), .func (.func 73) #[] #[]] W fun e w' => e = .returned (.bool (eqP (fieldsF f r) xs)) ∧ Below W.heap.size W w') := fun W hb => eqFunc_any (hFA.below hb) (HTx.out W hb) hsm hfl hxs
      have hD := Holds.new w3 72 #[.int .i64 (b'.toNat : Int), v]
      have y1 := hD.cell 1
      have y1d : (w3.alloc (.cells #[.int .i64 (b'.toNat : Int), v] 72)).drew.cell? ⟨w3.heap.size, 1, none⟩ = some v := y1
      have HB4 : Hid (Below w3.heap.size w3 (w3.alloc (.cells #[.int .i64 (b'.toNat : Int), v] 72)).drew) := h34.drew
      have HB4' := Lib.hid h34
      clear hm hk hsm hfl hq hFA h34 HTx HT1 hD HJ2
      subst hv0
      unfold msgV
      generalize eqP (fieldsF f r) xs = eq at *
      generalize (fieldsF f r).length = nfs at *
      go_wp2_with fail
      cases eq with
      | false =>
        have hqn : q = none := HQ.out
        go_region_with (first
          | (go_at_call 72; (with_reducible refine (HEq.out _ HB4'.out).mono ?_); rintro e w5 ⟨rfl, b5⟩; have hb5 := HB4'.out.trans (b5.mono HB4'.out.size))
          | (go_at_call 72; (with_reducible refine (HEq.out _ HB4.out).mono ?_); rintro e w5 ⟨rfl, b5⟩; have hb5 := HB4.out.trans (b5.mono HB4.out.size))
          | fail)
        all_goals
          have HB5 := Lib.hid (HB3.out.trans (hb5.mono HB3.out.size))
          go_wp2_with fail
          go_ret2
          rw [hqn]
          exact ⟨HB5.out, _, _, rfl, rfl, fun x h => by cases h⟩
      | true =>
        have hqn : q = some fm.flatten := HQ.out
        go_region_with (first
          | (go_at_call 72; (with_reducible refine (HEq.out _ HB4'.out).mono ?_); rintro e w5 ⟨rfl, b5⟩; have hb5 := HB4'.out.trans (b5.mono HB4'.out.size))
          | (go_at_call 72; (with_reducible refine (HEq.out _ HB4.out).mono ?_); rintro e w5 ⟨rfl, b5⟩; have hb5 := HB4.out.trans (b5.mono HB4.out.size))
          | fail)
        all_goals
          have HB5 := Lib.hid (HB3.out.trans (hb5.mono HB3.out.size))
          go_wp2_with fail
          go_ret2
          rw [hqn]
          exact ⟨HB5.out, _, _, rfl, rfl, fun x h => by injection h with h; rw [← h, HP1.out]⟩
    · have hq : q = none := by rw [HJ2.out, hm]
      have HQ := Lib.hid hq
      have hD := Holds.new w3 72 #[.int .i64 0, .slice none 0 0]
      have HB4 := Lib.hid (HB3.out.alloc HB3.out.size (.cells #[.int .i64 0, .slice none 0 0] 72))
      clear hm hq HJ2 HT1
      unfold zeroM
      go_wp2_with fail
      go_quiet (fail)
      go_wp2_with fail
      go_ret2
      rw [HQ.out]
      exact ⟨belN HB4.out _, _, _, rfl, rfl, fun x h => by cases h⟩
end Go.Proofs.YtlalkpgipenkaaaGreatDoor

namespace Go.Proofs.YtlalkpgipenkaaaGreatDoor
open Go.RowKit

def bytesT (t : List UInt8) : Option (List UInt8) := if kindL t = 1 then unparsedT (t.drop 5) else if kindL t = 10 then joinedT (nodeOf t).args else none

set_option maxHeartbeats 1000000 in
set_option maxRecDepth 100000 in
theorem pBytes_any {B A : Nat} {L : List Ent} {F : Nat → Prop} {w : World} (ha : ArenaAt B A L F w) (hG : Good L) {i : Int} {t : List UInt8} (ht : TAt L i t) (hTab : TabAt w) (hV : VarAt w) :
    Calls Tryz.prog 10 #[.pointer (some ⟨A, 0, none⟩), .int .i64 i] w (SomeS (bytesT t) w) := by
  have HT := Lib.hid hTab
  have HVa := Lib.hid hV
  have hgm := hV.pos
  rcases ht with ⟨rfl, rfl⟩ | ⟨n, rfl, hn, rfl⟩
  · have HV := Lib.hid (View_no ha (-1) (by omega))
    have hq : bytesT [] = none := rfl
    rw [hq]
    unfold noNode at HV
    clear hTab hV
    go_enter Tryz.func10, Tryz.ntmps10
    go_wp2_with (go_at_call 24; (with_reducible refine HV.out.mono ?_); rintro e w1 ⟨rfl, b1⟩)
    go_ret2
    exact ⟨b1.alloc b1.size _, _, _, rfl, rfl, fun x h => by cases h⟩
  · have he : L[n]? = some (L[n]'hn) := List.getElem?_eq_getElem hn
    obtain ⟨h1, h2⟩ := data_ent hG he
    have hsh := TAt.short hG (.inr ⟨n, rfl, hn, rfl⟩)
    have HV := Lib.hid (view_cells ha he)
    have hB : bytesT (enc L n) = if kindL (enc L n) = 1 then unparsedT ((enc L n).drop 5) else if kindL (enc L n) = 10 then joinedT (nodeOf (enc L n)).args else none := rfl
    rw [h1] at hB
    have hna : (nodeOf (enc L n)).args = (L[n]'hn).sh.args.map (enc L) := by rw [nodeOf_enc hG he]; rfl
    rw [hna] at hB
    by_cases hk : (L[n]'hn).sh.kind = 1
    · rw [if_pos hk] at hB
      obtain ⟨h3, _⟩ := h2 hk
      have hs2 : bs ((enc L n).drop 5) = (L[n]'hn).sh.s := by rw [h3, bs_list]
      have hsl : ((enc L n).drop 5).length ≤ 131072 := by rw [List.length_drop]; omega
      rw [hB]
      generalize (enc L n).drop 5 = sx at *
      have HU : Hid (∀ W, Below w.heap.size w W → Calls Tryz.prog 25 #[.string (L[n]'hn).sh.s] W (SomeS (unparsedT sx) W)) := fun W hb => by
        rw [← hs2]
        exact pUnparsed_any sx (by omega) (HT.out.below hb) (HVa.out.below hb hgm)
      rw [hk] at HV
      generalize unparsedT sx = q at *
      generalize (L[n]'hn).sh.a = va at *
      generalize (L[n]'hn).sh.b = vb at *
      generalize (L[n]'hn).sh.s = vs at *
      generalize (argsI (L[n]'hn)) = al at *
      clear h1 h2 hsh hk h3 hs2 hsl he hB hTab hV hna ha
      go_enter Tryz.func10, Tryz.ntmps10
      go_wp2_with (go_at_call 24; (with_reducible refine HV.out.mono ?_); rintro e w1 ⟨g, rfl, _, b1⟩)
      have HB2 := Lib.hid (b1.alloc b1.size (.cells #[.int .i64 1, .int .i64 (va : Int), .int .i64 (vb : Int), .string vs, .slice (some ⟨g, 0, none⟩) al.length al.length] 60))
      have HUx := Lib.hid (HU.out _ HB2.out)
      clear HU b1
      go_at_call 25
      (with_reducible refine HUx.out.mono ?_)
      rintro e w5 ⟨b5, s5, is5, rfl, h6, h7⟩
      have H6 := Lib.hid h6
      have H7 := Lib.hid h7
      clear h6 h7
      go_wp2_with fail
      go_ret2
      exact ⟨HB2.out.trans (b5.mono HB2.out.size), s5, is5, rfl, H6.out, H7.out⟩
    · rw [if_neg hk] at hB
      have hkn : ((((L[n]'hn).sh.kind : Nat) : Int) == 1) = false := by rw [beq_eq_false_iff_ne]; omega
      by_cases hk2 : (L[n]'hn).sh.kind = 10
      · rw [if_pos hk2] at hB
        rw [hB]
        have hlen : (L[n]'hn).sh.args.length ≤ 32 := by
          have := hG.sh n _ he
          generalize (L[n]'hn).sh = sh at *
          cases this with
          | list l h => exact h
          | data | nonce | key | pub | share | sig | hash | derive | sealed => simp at hk2
        have hT : TAts L (argsI (L[n]'hn)) ((L[n]'hn).sh.args.map (enc L)) := tats_map _ (fun t ht => by
          have := ha.wf.ok n _ he
          have := this.args t ht
          omega)
        have HJ : Hid (∀ W g, Below w.heap.size w W → (argsI (L[n]'hn) ≠ [] → g < W.heap.size ∧ ∀ (j : Nat) (i : Int), (argsI (L[n]'hn))[j]? = some i → W.cell? ⟨g, 0 + j, none⟩ = some (.int .i64 i)) → Calls Tryz.prog 26 #[.pointer (some ⟨A, 0, none⟩), .slice (some ⟨g, 0, none⟩) (argsI (L[n]'hn)).length (argsI (L[n]'hn)).length] W (SomeS (joinedT ((L[n]'hn).sh.args.map (enc L))) W)) := fun W g hb hc =>
          pJoined_any (ha.below hb) hG ⟨_, _, rfl, fun hne => ⟨g, 0, rfl, (hc hne).1, (hc hne).2⟩⟩ hT (by rw [argsI_len]; exact hlen) (HT.out.below hb) (HVa.out.below hb hgm)
        have hk2i : (((L[n]'hn).sh.kind : Nat) : Int) = 10 := by omega
        rw [hk2i] at HV hkn
        generalize joinedT ((L[n]'hn).sh.args.map (enc L)) = q at *
        generalize (L[n]'hn).sh.a = va at *
        generalize (L[n]'hn).sh.b = vb at *
        generalize (L[n]'hn).sh.s = vs at *
        generalize (argsI (L[n]'hn)) = al at *
        clear h1 h2 hsh hk he hB hTab hV hna ha hk2 hlen hT hk2i hkn
        go_enter Tryz.func10, Tryz.ntmps10
        go_wp2_with (go_at_call 24; (with_reducible refine HV.out.mono ?_); rintro e w1 ⟨g, rfl, hgc, b1⟩; have HGc := Lib.hid hgc; clear hgc)
        have hb2 := b1.alloc b1.size (.cells #[.int .i64 10, .int .i64 (va : Int), .int .i64 (vb : Int), .string vs, .slice (some ⟨g, 0, none⟩) al.length al.length] 60)
        have hb12 : Below w1.heap.size w1 (w1.alloc (.cells #[.int .i64 10, .int .i64 (va : Int), .int .i64 (vb : Int), .string vs, .slice (some ⟨g, 0, none⟩) al.length al.length] 60)) := (Below.refl _ w1).alloc (Nat.le_refl _) _
        have HJx := Lib.hid (HJ.out _ g hb2 (fun hne => ⟨Nat.lt_of_lt_of_le (HGc.out hne).1 hb12.size, fun j i hj => (hb12.cell (p := ⟨g, 0 + j, none⟩) (HGc.out hne).1).trans ((HGc.out hne).2 j i hj)⟩))
        have HB2 := Lib.hid hb2
        clear HJ b1 hb2 hb12 HGc
        go_at_call 26
        (with_reducible refine HJx.out.mono ?_)
        rintro e w5 ⟨b5, s5, is5, rfl, h6, h7⟩
        have H6 := Lib.hid h6
        have H7 := Lib.hid h7
        clear h6 h7
        go_wp2_with fail
        go_ret2
        exact ⟨HB2.out.trans (b5.mono HB2.out.size), s5, is5, rfl, H6.out, H7.out⟩
      · rw [if_neg hk2] at hB
        have hkn2 : ((((L[n]'hn).sh.kind : Nat) : Int) == 10) = false := by rw [beq_eq_false_iff_ne]; omega
        rw [hB]
        generalize (L[n]'hn).sh.kind = vk at *
        generalize (L[n]'hn).sh.a = va at *
        generalize (L[n]'hn).sh.b = vb at *
        generalize (L[n]'hn).sh.s = vs at *
        generalize (argsI (L[n]'hn)) = al at *
        clear h1 h2 hsh hk he hB hTab hV hna ha hk2
        go_enter Tryz.func10, Tryz.ntmps10
        go_wp2_with (go_at_call 24; (with_reducible refine HV.out.mono ?_); rintro e w1 ⟨g, rfl, _, b1⟩)
        go_ret2
        exact ⟨b1.alloc b1.size _, _, _, rfl, rfl, fun x h => by cases h⟩
end Go.Proofs.YtlalkpgipenkaaaGreatDoor

namespace Go.Proofs.YtlalkpgipenkaaaGreatDoor
open Go.RowKit

theorem pyData (s : List UInt8) (h : s.length ≤ 131067) : refDataL s = 241 :: cnt s := by
  unfold refDataL
  rw [if_neg (by omega), fits_some (by simp [tagL, pack4]; omega)]
  simp [tagL, cnt]
theorem pyDataT (s : List UInt8) (h : s.length ≤ 131067) : kindL (refDataL s) = 1 ∧ (refDataL s).drop 5 = s ∧ dataT (refDataL s) = some s ∧ refDataL s ≠ [] := by
  rw [pyData s h]
  have h1 : kindL (241 :: cnt s) = 1 := rfl
  have h2 : (241 :: cnt s).drop 5 = s := rfl
  refine ⟨h1, h2, ?_, by simp⟩
  unfold dataT
  rw [if_pos h1, h2]
theorem opq_ne {s : List UInt8} (h : opqL s = true) : s ≠ [] ∧ kindL s ≠ 1 := by
  unfold opqL at h
  simp only [Bool.and_eq_true, decide_eq_true_eq] at h
  refine ⟨fun e => ?_, h.2.2⟩
  subst e
  have : rightD [] = false := by decide +kernel
  rw [this] at h
  cases h.2.1
theorem pyOf (s : List UInt8) (h : s.length ≤ 131067) : fbT (ofL s) = some s ∧ ofL s ≠ [] := by
  unfold ofL
  by_cases ho : opqL s = true
  · rw [if_pos ho]
    obtain ⟨h1, h2⟩ := opq_ne ho
    refine ⟨?_, h1⟩
    unfold fbT
    rw [if_neg h1, if_pos h2]
  · rw [if_neg ho]
    obtain ⟨h1, h2, _, h4⟩ := pyDataT s h
    refine ⟨?_, h4⟩
    unfold fbT
    rw [if_neg h4, if_neg (by rw [h1]; simp), h2, if_neg ho]
theorem pyForm {x : FieldR} (hs : x.s.length ≤ 32767) (hv : (valueP x).1.length ≤ 131067) (hr : (writeP (x.kind.toNat : Int) x).2 = 0) : formT x.kind (fieldT x) = some (valueP x).1 := by
  unfold formT fieldT
  by_cases hk : x.kind = 116
  · rw [if_pos hk, if_pos hk, (pyOf x.s (by omega)).1]
    have hn : (x.kind.toNat : Int) = 116 := by rw [hk]; rfl
    have : (valueP x).1 = cnt x.s := by
      show (writeP (x.kind.toNat : Int) x).1 = cnt x.s
      unfold writeP at hr ⊢
      rw [hn] at hr ⊢
      split at hr
      · simp at hr
      · rename_i h
        rw [if_neg h]
        simp [usesP, wrBytes]
    rw [this]; rfl
  · rw [if_neg hk, if_neg hk]
    exact (pyDataT _ hv).2.2.1

theorem Parts.value_le {b : UInt8} {f : ByteArray} {s : List UInt8} (h : Parts b f s) {k : Nat} (hk : k < (fieldsF f s).length) : (valueP ((fieldsF f s)[k]'hk)).1.length ≤ s.length := by
  have hkl : k < (lettersOf f).length := by rw [← h.len]; exact hk
  have hkd := h.kind k hkl
  have hg : (fieldsF f s).getD k zeroF = (fieldsF f s)[k]'hk := by rw [List.getD_eq_getElem?_getD, List.getElem?_eq_getElem hk]; rfl
  have h1 := encK_mono (lettersOf f) (fieldsF f s) (show k + 1 ≤ (lettersOf f).length by omega)
  rw [← h.text] at h1
  have h2 : encK (lettersOf f) (fieldsF f s) (k + 1) = encK (lettersOf f) (fieldsF f s) k ++ (writeP (((lettersOf f).getD k 0).toNat : Int) ((fieldsF f s).getD k zeroF)).1 := rfl
  rw [h2, List.length_append, ← hkd, hg] at h1
  show (writeP (((fieldsF f s)[k]'hk).kind.toNat : Int) ((fieldsF f s)[k]'hk)).1.length ≤ _
  omega
theorem Parts.value_ok {b : UInt8} {f : ByteArray} {s : List UInt8} (h : Parts b f s) {k : Nat} (hk : k < (fieldsF f s).length) : (writeP (((fieldsF f s)[k]'hk).kind.toNat : Int) ((fieldsF f s)[k]'hk)).2 = 0 := by
  have hkl : k < (lettersOf f).length := by rw [← h.len]; exact hk
  have hkd := h.kind k hkl
  have hg : (fieldsF f s).getD k zeroF = (fieldsF f s)[k]'hk := by rw [List.getD_eq_getElem?_getD, List.getElem?_eq_getElem hk]; rfl
  have := h.right k hkl
  rw [← hkd, hg] at this
  exact this
theorem Parts.forms {b : UInt8} {f : ByteArray} {s : List UInt8} (h : Parts b f s) (hs : s.length ≤ 32767) : ∀ k, k ≤ (fieldsF f s).length →
    mapFK (lettersOf f) ((fieldsF f s).map fieldT) k = some (((fieldsF f s).take k).map fun x => (valueP x).1) ∧ ((((fieldsF f s).take k).map fun x => (valueP x).1)).flatten = encK (lettersOf f) (fieldsF f s) k
  | 0, _ => ⟨rfl, rfl⟩
  | k + 1, hk => by
    obtain ⟨h1, h2⟩ := h.forms hs k (by omega)
    have hkn : k < (fieldsF f s).length := by omega
    have hkl : k < (lettersOf f).length := by rw [← h.len]; exact hkn
    have hkd := h.kind k hkl
    have hg : (fieldsF f s).getD k zeroF = (fieldsF f s)[k]'hkn := by rw [List.getD_eq_getElem?_getD, List.getElem?_eq_getElem hkn]; rfl
    have hsm := h.small _ (List.getElem_mem hkn)
    have hf := pyForm (x := (fieldsF f s)[k]'hkn) (by have := hsm.s; omega) (by have := h.value_le hkn; omega) (h.value_ok hkn)
    have hgt : ((fieldsF f s).map fieldT).getD k [] = fieldT ((fieldsF f s)[k]'hkn) := by
      rw [List.getD_eq_getElem?_getD, List.getElem?_map, List.getElem?_eq_getElem hkn]; rfl
    rw [hg] at hkd
    have htk : (fieldsF f s).take (k + 1) = (fieldsF f s).take k ++ [(fieldsF f s)[k]'hkn] := List.take_succ_eq_append_getElem hkn
    refine ⟨?_, ?_⟩
    · rw [mapFK_step h1 (by rw [hgt, ← hkd]; exact hf), htk, List.map_append]; rfl
    · rw [htk, List.map_append, List.flatten_append, h2]
      have h3 : encK (lettersOf f) (fieldsF f s) (k + 1) = encK (lettersOf f) (fieldsF f s) k ++ (writeP (((lettersOf f).getD k 0).toNat : Int) ((fieldsF f s).getD k zeroF)).1 := rfl
      rw [h3, hg, ← hkd]
      simp [valueP]

end Go.Proofs.YtlalkpgipenkaaaGreatDoor

namespace Go.Proofs.YtlalkpgipenkaaaGreatDoor
open Go.RowKit

/-- The example: the payload 21 under key 1 with number 0. -/
def sealR : List UInt8 := refSealL (refKeyL 1) 0 (termP [21])
theorem sealR_ne : sealR ≠ [] := by decide +kernel
theorem sealR_unit : unitT (cnt sealR) = (sealR, 0) := by decide +kernel
theorem sealR_kind : (nodeOf sealR).k = 9 := by decide +kernel
theorem sealR_b : (nodeOf sealR).b = 0 := by decide +kernel
theorem sealR_args : (nodeOf sealR).args = [refKeyL 1, termP [21]] := by decide +kernel

theorem seal_node {M : List Ent} (hG : Good M) {i : Nat} {e : Ent} (he : M[i]? = some e) (h : enc M i = sealR) :
    e.sh.kind = 9 ∧ e.sh.b = 0 ∧ ∃ x y, e.sh.args = [x, y] ∧ enc M x = refKeyL 1 ∧ enc M y = termP [21] := by
  have hn := nodeOf_enc hG he
  rw [h] at hn
  have h1 := sealR_kind
  have h2 := sealR_b
  have h3 := sealR_args
  rw [hn] at h1 h2 h3
  unfold nodeSh at h1 h2 h3
  simp only at h1 h2 h3
  refine ⟨by omega, h2, ?_⟩
  match e.sh.args, h3 with
  | [], h3 => simp at h3
  | [_], h3 => simp at h3
  | [x, y], h3 =>
    simp only [List.map_cons, List.map_nil, List.cons.injEq, and_true] at h3
    exact ⟨x, y, rfl, h3.1, h3.2⟩
  | _ :: _ :: _ :: _, h3 => simp at h3
end Go.Proofs.YtlalkpgipenkaaaGreatDoor
