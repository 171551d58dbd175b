/- Part 40 of what the statement wants. -/
import Derived.Test.YtkigohenfaomkaaGreatPk38
namespace Go.Proofs.YtkigohenfaomkaaGreat
open Go.RowKit

theorem rcSet {S : Nat → Prop} {w w' : World} {E : Nat} {cs : Array Value} {base n : Nat} {v : Value} {xs : List Value} (u : Value) (hE : Holds w' E 55 cs) (hr : w'.ownsRow base 35 1 v n xs) (m : Moves S w w') (hS : S E ∨ w.heap.size ≤ E) :
    Holds (w'.setCell ⟨E, 4, none⟩ u) E 55 (cs.setIfInBounds 4 u) ∧ (w'.setCell ⟨E, 4, none⟩ u).ownsRow base 35 1 v n xs ∧ Moves S w (w'.setCell ⟨E, 4, none⟩ u) :=
  ⟨hE.set 4 u, owns_moves hr ((Moves.refl (fun k => k = E) w').setCell (.inl rfl) _) fun k hk => by rintro rfl; exact own_ne hr hE (by decide) hk, m.setCell hS u⟩

set_option maxHeartbeats 2000000 in
set_option maxRecDepth 100000 in
theorem cAll_any {B A : Nat} {L0 : List Ent} {F0 : Nat → Prop} {w : World} (ha : ArenaAt B A L0 F0 w) (hG : Good L0) (hlen : L0.length < 1000000000) {vk vs vo : Value} {known sent : List Int} {l : List OpR}
    (hk : IdsAt w vk known) (nk : ∀ k, vk.ownBlock = some k → k < w.heap.size ∧ ¬ F0 k) (hs : IdsAt w vs sent) (ns : ∀ k, vs.ownBlock = some k → k < w.heap.size ∧ ¬ F0 k) (ho : OpsAt w vo l) (no : l ≠ [] → ∀ k, vo.ownBlock = some k → ¬ F0 k) (hl : l.length ≤ 64) (hS : ∀ o ∈ l, o.s.length ≤ 1000000) :
    Calls Tryz.prog 9 #[.pointer (some ⟨A, 0, none⟩), vk, vs, vo] w fun r w' => ∃ L rs vr F, r = .returned vr ∧ StepsTo L0 L0.length known sent l L rs ∧ IdsAt w' vr rs ∧ ArenaAt B A L F w' ∧ Moves F0 w w' ∧ (∀ i, F i → F0 i ∨ w.heap.size ≤ i) ∧ (∀ k, vr.ownBlock = some k → ¬ F k) := by
  obtain ⟨had, hhad⟩ : ∃ had : Int, had = L0.length := ⟨_, rfl⟩
  have HL := Lib.hid (Len_any ha)
  rw [← hhad] at HL ⊢
  have HHad := Lib.hid hhad
  clear hhad
  have HK : Hid (∀ (W : World) (F : Nat → Prop), Moves F0 w W → (∀ i, F i → F0 i ∨ w.heap.size ≤ i) → IdsAt W vk known ∧ IdsAt W vs sent ∧ (∀ k, vk.ownBlock = some k → ¬ F k) ∧ (∀ k, vs.ownBlock = some k → ¬ F k)) := fun W F m hF =>
    ⟨hk.moves m fun k h => (nk k h).2, hs.moves m fun k h => (ns k h).2, fun k h hf => by have := nk k h; rcases hF k hf with h | h; exact this.2 h; omega, fun k h hf => by have := ns k h; rcases hF k hf with h | h; exact this.2 h; omega⟩
  obtain ⟨ak, ck, rfl, _⟩ := hk
  obtain ⟨az, cs, rfl, _⟩ := hs
  obtain ⟨ao, cap, rfl, hc⟩ := ho
  have HC : Hid (∀ W k x, Moves F0 w W → l[k]? = some x → ∃ b off, ao = some ⟨b, off, none⟩ ∧ W.cell? ⟨b, off + k * 5, none⟩ = some (.int .i64 x.kind) ∧ W.cell? ⟨b, off + k * 5 + 1, none⟩ = some (.int .i64 x.a) ∧ W.cell? ⟨b, off + k * 5 + 2, none⟩ = some (.int .i64 x.b) ∧
    W.cell? ⟨b, off + k * 5 + 3, none⟩ = some (.int .i64 x.c) ∧ W.cell? ⟨b, off + k * 5 + 4, none⟩ = some (.string (bs x.s))) := fun W k x m hx => by
    obtain ⟨b, off, rfl, hb, hcell⟩ := hc (by rintro rfl; simp at hx)
    have e : ∀ i, W.cell? ⟨b, i, none⟩ = w.cell? ⟨b, i, none⟩ := fun i => m.cell (p := ⟨b, i, none⟩) hb (no (by rintro rfl; simp at hx) b rfl)
    refine ⟨b, off, rfl, ?_⟩
    simp only [e]
    exact hcell k x hx
  have hR := fun W => cRight_any (w := W) ao l.length cap (by omega)
  rw [show decide ((l.length : Int) ≤ 64) = true from decide_eq_true (by omega)] at hR
  have HR := Lib.hid hR
  have hE := Holds.new w 55 #[.pointer (some ⟨A, 0, none⟩), .int .i64 had, .slice ak known.length ck, .slice az sent.length cs, .slice none 0 0]
  have m1 : Moves F0 w (w.alloc (.cells #[.pointer (some ⟨A, 0, none⟩), .int .i64 had, .slice ak known.length ck, .slice az sent.length cs, .slice none 0 0] 55)) := (Moves.refl F0 w).alloc _
  have HW : ∃ W1, Hid (W1 = w.alloc (.cells #[.pointer (some ⟨A, 0, none⟩), .int .i64 had, .slice ak known.length ck, .slice az sent.length cs, .slice none 0 0] 55)) := ⟨_, Lib.hid rfl⟩
  obtain ⟨W1, HW⟩ := HW
  rw [← HW.out] at hE m1
  obtain ⟨E, hEe⟩ : ∃ E, E = w.heap.size := ⟨_, rfl⟩
  have ha1 : ArenaAt B A L0 F0 W1 := by rw [HW.out]; exact ha.below ((Below.refl _ w).alloc (Nat.le_refl _) _)
  have HEe := Lib.hid hEe
  rw [← hEe] at hE
  obtain ⟨i0, hi, hz0, hz1, hz2⟩ := info_parts info_id
  clear nk ns hc no hR ha hEe
  generalize known.length = nk at *
  generalize sent.length = ns at *
  go_enter Tryz.func9, Tryz.ntmps9
  go_wp2_with (first
    | (go_at_call 13; (with_reducible refine (HR.out _).mono ?_); rintro r w' ⟨rfl, hw⟩; have hw := hw.symm; subst hw)
    | (go_at_call 20; (with_reducible refine HL.out.mono ?_); rintro r w' ⟨rfl, hw⟩; subst hw))
  rw [← HW.out, ← HEe.out]
  have HM1 := Lib.hid m1
  have HE1 := Lib.hid hE
  have HA1 := Lib.hid ha1
  clear m1 hE ha1
  go_loopw [27] (fun i wr => ∃ (k : Nat) (L : List Ent) (rs : List Int) (vr : Value) (F : Nat → Prop), i = .int .i64 (k : Int) ∧ k ≤ l.length ∧ StepsTo L0 had known sent (l.take k) L rs ∧ rs.length = k ∧ ArenaAt B A L F wr ∧
    Holds wr E 55 #[.pointer (some ⟨A, 0, none⟩), .int .i64 had, .slice ak nk ck, .slice az ns cs, vr] ∧ wr.ownsRow (E + 1) 35 1 vr k (idsC rs) ∧ Moves F0 w wr ∧ (∀ i, F i → F0 i ∨ w.heap.size ≤ i)) (fun i _ => l.length - (intOf i).toNat)
  case atStart => exact ⟨0, L0, [], _, F0, rfl, Nat.zero_le _, .nil, rfl, HA1.out, HE1.out, World.ownsRow_nil _ _ _ _, HM1.out, fun _ h => .inl h⟩
  case round =>
    obtain ⟨k, L, rs, vr, F, rfl, hkl, hst, hrl, har, hE, hrow, hmv, hF⟩ := hrel
    by_cases hlt : k < l.length
    · obtain ⟨x, hx⟩ : ∃ x, x = l[k] := ⟨_, rfl⟩
      obtain ⟨b, off, rfl, x0, x1, x2, x3, x4⟩ := HC.out wr k x hmv (by simp [hlt, hx])
      have hxm : x ∈ l := by rw [hx]; exact List.getElem_mem hlt
      have hgr := hst.grown hG (by have := List.length_take_le k l; omega)
      have hLl : L.length < 1073741824 := by have := hgr.len; have := List.length_take_le k l; omega
      have HTo : Hid (∀ m, ResTo L had known sent rs x m → StepsTo L0 had known sent (l.take (k + 1)) m.2 (rs ++ [m.1])) := fun m hm => by
        rw [List.take_succ_eq_append_getElem hlt, ← hx]
        exact .snoc hst hm
      have hsx := hS x hxm
      have q1 : decide ((k : Int) < (l.length : Int)) = true := decide_eq_true (by omega)
      obtain ⟨ki, kv, ks, kn⟩ := HK.out wr F hmv hF
      have nE : ¬ F E := arena_ne har hE (by decide) (by decide)
      have nr := rcNeRow har hrow (by decide) (by decide)
      have hev : EvOf F E A had known sent rs wr := by
        obtain ⟨_, ck', e1, _⟩ := ki
        exact ⟨_, _, _, hE, HK.out wr F hmv hF |>.1, HK.out wr F hmv hF |>.2.1, IdsAt.ofOwn (by rw [hrl]; exact hrow), nE, HK.out wr F hmv hF |>.2.2.1, HK.out wr F hmv hF |>.2.2.2, nr⟩
      have HX := Lib.hid (fun (W : World) (hb : Below wr.heap.size wr W) => cResult_any (har.below hb) hgr.good hLl (hev.moves (Moves.ofBelow hb)) x hsx)
      obtain ⟨X, hX⟩ : ∃ X, Hid (X = wr.alloc (.cells x.cells 43)) := ⟨_, Lib.hid rfl⟩
      have hO : Holds X wr.heap.size 43 x.cells := by rw [hX.out]; exact Holds.new _ _ _
      have bX : Below wr.heap.size wr X := by rw [hX.out]; exact (Below.refl _ wr).alloc (Nat.le_refl _) _
      obtain ⟨xk, xa, xb, xc, xs⟩ := x
      simp only [OpR.value, OpR.cells] at HX hX hO x0 x1 x2 x3 x4
      generalize bs xs = S at *
      have o0 : X.drew.cell? ⟨wr.heap.size, 0, none⟩ = some (.int .i64 xk) := hO.cell 0
      have o1 : X.drew.cell? ⟨wr.heap.size, 1, none⟩ = some (.int .i64 xa) := hO.cell 1
      have o2 : X.drew.cell? ⟨wr.heap.size, 2, none⟩ = some (.int .i64 xb) := hO.cell 2
      have o3 : X.drew.cell? ⟨wr.heap.size, 3, none⟩ = some (.int .i64 xc) := hO.cell 3
      have o4 : X.drew.cell? ⟨wr.heap.size, 4, none⟩ = some (.string S) := hO.cell 4
      have bXd : Below wr.heap.size wr X.drew := bX.drew
      have e4 : X.drew.cell? ⟨E, 4, none⟩ = some vr := (hE.moves (Moves.ofBelow (S := nobody) bXd) (fun h => h)).cell 4
      have HBX := Lib.hid bXd
      have HXX := Lib.hid (HX.out _ bXd)
      have HEr := Lib.hid hE
      have HRo := Lib.hid hrow
      have HAr := Lib.hid har
      have HMv := Lib.hid hmv
      have HF := Lib.hid hF
      have hEl := hE.lt
      have hwE : w.heap.size ≤ E := by rw [HEe.out]; exact Nat.le_refl _
      clear hev HX hO bX bXd hE hrow har hmv hst hgr hx hxm hF ki kv ks kn
      go_wp2_with fail
      rw [← hX.out]
      go_region_law (first
        | (refine step_append_lies _ rfl (.tmp 32) (.tmp 35) 29 rfl (E + 1) 35 i0 _ 1 8 Tryz.underlying29 hi hz0 hz1 hz2 rfl (by decide) vr k (idsC rs) rfl (hrow3.alloc _) ⟨w3.heap.size, 0, none⟩ 1 1 [.int .i64 m.1] rfl rfl (cell_one_new w3 _ _) (by simp [Value.oneCell']) (by decide) (by unfold maxLen; omega) (by omega) (by simp; omega) _ rfl ?_
           intro g cap4 w4 hrow4 hg4 hat4 hlt4
           have m4 : Moves (fun i => vr.ownBlock = some i) w3 w4 := ((Moves.refl (fun i => vr.ownBlock = some i) w3).alloc _).grown hg4 (fun _ hi => .inl hi)
           have hE4 := hE3.moves m4 (own_ne hrow3 hE3 (by decide))
           have b4 := hE4.cell 4
           have f4 := hE4.frozen 4)
        | (go_simp
           go_at_call 21
           (with_reducible refine HXX.out.mono ?_)
           rintro r w3 ⟨m, rfl, hm, hl3⟩
           have hl4 := Left.after (Moves.ofBelow HBX.out) hl3
           have mv3 := hl4.moves
           have hE3 := HEr.out.moves mv3 nE
           have hrow3 := owns_moves HRo.out mv3 nr
           have a4 := hE3.cell 4
           have hE3l := hE3.lt
           have a4' : ∀ o, (w3.alloc o).cell? ⟨E, 4, none⟩ = some vr := fun o => (hE3.moves ((Moves.refl nobody w3).alloc o) (fun h => h)).cell 4))
      all_goals
        obtain ⟨mi, mL⟩ := m
        obtain ⟨F5, ha5, mm5, hF5⟩ := hl4
        simp only at ha5 hrow4
        rw [← idsC_snoc] at hrow4
        obtain ⟨hE5, hrow5, m5⟩ := rcSet (S := fun i => i = E ∨ vr.ownBlock = some i) (.slice (some ⟨g, 0, none⟩) (k + 1) cap4) hE4 hrow4 (m4.mono fun _ h _ => .inr h) (.inl (.inl rfl))
        have ha6 := ha5.moves m5 (by
          rintro i hFi (h | h)
          · exact arena_ne ha5 hE3 (by decide) (by decide) (h ▸ hFi)
          · exact rcNeRow ha5 hrow3 (by decide) (by decide) i h hFi)
        have mT : Moves F0 w (w4.setCell ⟨E, 4, none⟩ (.slice (some ⟨g, 0, none⟩) (k + 1) cap4)) := (HMv.out.trans mm5 HF.out).trans m5 (by
          rintro i (h | h)
          · exact .inr (by omega)
          · have := (hrow3.lt i h).1
            exact .inr (by omega))
        have hF6 : ∀ i, F5 i → F0 i ∨ w.heap.size ≤ i := fun i h => (hF5 i h).elim (HF.out i) fun h => .inr (Nat.le_trans HMv.out.size h)
        have H6 := Lib.hid ha6
        have H7 := Lib.hid mT
        have H8 := Lib.hid hF6
        have H9 := Lib.hid hE5
        have H10 := Lib.hid hrow5
        have H11 := Lib.hid (HTo.out _ hm)
        clear ha6 mT hF6 hE5 hrow5 hm m5 ha5 mm5 hF5 hrow4 hE4 hg4 hat4 m4 b4 f4 a4 a4' hE3 hrow3 mv3 hl3 o0 o1 o2 o3 o4 e4
        generalize w4.setCell ⟨E, 4, none⟩ (.slice (some ⟨g, 0, none⟩) (k + 1) cap4) = W5 at *
        go_wp2_with fail
        go_roundw
        case rel => exact ⟨k + 1, mL, rs ++ [mi], _, F5, by go_num, by omega, H11.out, by simp [hrl], H6.out, H9.out, H10.out, H7.out, H8.out⟩
        case measure => simp [intOf]; omega
    · have hke : k = l.length := by omega
      subst hke
      rw [List.take_length] at hst
      have q1 : decide ((l.length : Int) < (l.length : Int)) = false := decide_eq_false (by omega)
      have hix := IdsAt.ofOwn (l := rs) (by rw [hrl]; exact hrow)
      have nr := rcNeRow har hrow (by decide) (by decide)
      obtain ⟨a1, c1, rfl⟩ := rcRow hrow
      have e4 := hE.cell 4
      have H1 := Lib.hid hst
      have H2 := Lib.hid hix
      have H3 := Lib.hid har
      have H4 := Lib.hid hmv
      have H5 := Lib.hid hF
      have H6 := Lib.hid nr
      clear hst hix har hmv hF nr hE hrow hS
      go_wp2_with fail
      go_ret
      exact ⟨L, rs, _, F, rfl, H1.out, H2.out, H3.out, H4.out, H5.out, H6.out⟩
end Go.Proofs.YtkigohenfaomkaaGreat

namespace Go.Proofs.YtkigohenfaomkaaGreat
open Go.RowKit

set_option maxRecDepth 100000 in
theorem cEval_any {B A : Nat} {L0 : List Ent} {F0 : Nat → Prop} {w : World} (ha : ArenaAt B A L0 F0 w) (hG : Good L0) (hlen : L0.length < 1000000000) {vk vs vo : Value} {known sent : List Int} {l : List OpR}
    (hk : IdsAt w vk known) (nk : ∀ k, vk.ownBlock = some k → k < w.heap.size ∧ ¬ F0 k) (hs : IdsAt w vs sent) (ns : ∀ k, vs.ownBlock = some k → k < w.heap.size ∧ ¬ F0 k) (ho : OpsAt w vo l) (no : l ≠ [] → ∀ k, vo.ownBlock = some k → ¬ F0 k) (hl : l.length ≤ 64) (hS : ∀ o ∈ l, o.s.length ≤ 1000000) :
    Calls Tryz.prog 10 #[.pointer (some ⟨A, 0, none⟩), vk, vs, vo] w fun r w' => ∃ L rs F, r = .returned (.int .i64 (atZ rs ((rs.length : Int) - 1))) ∧ StepsTo L0 L0.length known sent l L rs ∧ ArenaAt B A L F w' ∧ Moves F0 w w' ∧ (∀ i, F i → F0 i ∨ w.heap.size ≤ i) := by
  have HAll := Lib.hid (cAll_any ha hG hlen hk nk hs ns ho no hl hS)
  have HL := Lib.hid hl
  clear ha hG hlen hk nk hs ns ho no hl hS
  go_enter Tryz.func10, Tryz.ntmps10
  go_wp2_with (first
    | (go_at_call 9; (with_reducible refine HAll.out.mono ?_); rintro r w1 ⟨L, rs, vr, F, rfl, hst, hid, har, hm, hF, hn⟩; obtain ⟨ar, cr, rfl, hid2⟩ := hid; have hn64 : rs.length ≤ 64 := (by have := HL.out; have := hst.lens; omega); have HAt := Lib.hid (cAt_any (w := w1) (v := .slice ar rs.length cr) ⟨ar, cr, rfl, hid2⟩ ((rs.length : Int) - 1)); have H1 := Lib.hid hst; have H2 := Lib.hid har; have H3 := Lib.hid hm; have H4 := Lib.hid hF; clear hst har hm hF hn hid2)
    | (go_at_call 22; (with_reducible refine HAt.out.mono ?_); rintro r w' ⟨rfl, hw⟩; have hw := hw.symm; subst hw))
  go_ret
  exact ⟨L, rs, F, rfl, H1.out, H2.out, H3.out, H4.out⟩

def fewP14 (l : List OpR) : Bool := decide (l.length ≤ 70 ∧ ∀ x ∈ l, x.s.length ≤ 200)
set_option maxRecDepth 100000 in
theorem few14_any {w : World} {v : Value} {l : List OpR} (h : OpsAt w v l) (hs : ∀ x ∈ l, x.s.length ≤ 9223372036854775807) (hl : l.length ≤ 9223372036854775807) :
    Calls Tryz.prog 5 #[v] w fun e w' => e = .returned (.bool (fewP14 l)) ∧ w' = w := by
  obtain ⟨ao, cap, rfl, hc⟩ := h
  by_cases hm : l.length ≤ 70
  · have q0 : decide ((l.length : Int) > 70) = false := decide_eq_false (by omega)
    have HC := Lib.hid hc
    have HS := Lib.hid hs
    clear hc hs
    go_enter Tryz.func5, Tryz.ntmps5
    go_wp2_with fail
    go_loopw [3] (fun i wr => ∃ k : Nat, k ≤ l.length ∧ i = .int .i64 (k : Int) ∧ (∀ x ∈ l.take k, x.s.length ≤ 200) ∧ wr = w) (fun i _ => l.length - (intOf i).toNat)
    case atStart => exact ⟨0, Nat.zero_le _, rfl, by simp, rfl⟩
    case round =>
      obtain ⟨k, hk, rfl, hall, rfl⟩ := hrel
      have HAll := Lib.hid hall
      clear hall
      by_cases hlt : k < l.length
      · obtain ⟨b, off, rfl, hb, hcell⟩ := HC.out (by intro h; simp [h] at hlt)
        obtain ⟨x, hx⟩ : ∃ x, x = l[k] := ⟨_, rfl⟩
        have c4 := (hcell k x (by simp [hlt, hx])).2.2.2.2
        have hsz := bs_size x.s
        have hxs := HS.out x (by rw [hx]; exact List.getElem_mem hlt)
        have q1 : decide ((k : Int) < (l.length : Int)) = true := decide_eq_true (by omega)
        by_cases h2 : x.s.length ≤ 200
        · have HN : Hid (∀ y ∈ l.take (k + 1), y.s.length ≤ 200) := fun y hy => by
            rw [List.take_succ_eq_append_getElem hlt, List.mem_append] at hy
            rcases hy with hy | hy
            · exact HAll.out y hy
            · simp at hy
              rw [hy, ← hx]; exact h2
          have q2 : decide (((bs x.s).size : Int) > 200) = false := decide_eq_false (by omega)
          clear hcell hx
          go_wp2_with fail
          go_roundw
          case rel => exact ⟨k + 1, by omega, by go_num, HN.out, trivial⟩
          case measure => simp [intOf]; omega
        · have HF : Hid (fewP14 l = false) := decide_eq_false (fun h => h2 (h.2 x (by rw [hx]; exact List.getElem_mem hlt)))
          have q2 : decide (((bs x.s).size : Int) > 200) = true := decide_eq_true (by omega)
          clear hcell hx
          go_wp2_with fail
          go_ret
          exact ⟨by rw [HF.out]; rfl, rfl⟩
      · have hkl : k = l.length := by omega
        subst hkl
        have HT : Hid (fewP14 l = true) := decide_eq_true ⟨hm, fun x hx => HAll.out x (by rw [List.take_length]; exact hx)⟩
        have q1 : decide ((l.length : Int) < (l.length : Int)) = false := decide_eq_false (by omega)
        clear HC
        go_wp2_with fail
        go_ret
        exact ⟨by rw [HT.out]; rfl, rfl⟩
  · have q0 : decide ((l.length : Int) > 70) = true := decide_eq_true (by omega)
    have HF : Hid (fewP14 l = false) := decide_eq_false (fun h => hm h.1)
    clear hc hs
    generalize l.length = n at *
    go_enter Tryz.func5, Tryz.ntmps5
    go_wp2_with fail
    go_ret
    exact ⟨by rw [HF.out]; rfl, rfl⟩

end Go.Proofs.YtkigohenfaomkaaGreat

namespace Go.Proofs.YtkigohenfaomkaaGreat
open Go.RowKit

theorem cAll_nil {w : World} (vk vs vo : Value) : Calls Tryz.prog 9 #[.pointer none, vk, vs, vo] w fun r w' => r = .returned (.slice none 0 0) ∧ w' = w := by
  go_enter Tryz.func9, Tryz.ntmps9
  go_wp2_with fail
  go_ret
  exact ⟨rfl, rfl⟩
end Go.Proofs.YtkigohenfaomkaaGreat
