/- Part 39 of what the statement wants. -/
import Derived.Test.YtkigohenfaomkaaGreatPk38
namespace Go.Proofs.YtkigohenfaomkaaGreat
open Go.RowKit

set_option maxHeartbeats 2000000 in
set_option maxRecDepth 100000 in
theorem r14All_any {w : World} {vk vs vo : Value} {kt st : List (List UInt8)} {l : List OpR} (hk : TextsAt w vk (kt.map bs)) (hs : TextsAt w vs (st.map bs)) (ho : OpsAt w vo l) (hl : l.length ≤ 1000) (hS : ∀ o ∈ l, o.s.length ≤ 10000)
    (hok : ∀ k, k ≤ l.length → ∀ i, OkT (atT (runT kt st (l.take k)) i)) :
    Calls Tryz.prog 14 #[vk, vs, vo] w fun e w' => ∃ v, e = .returned v ∧ TextsAt w' v ((runT kt st l).map bs) ∧ Below w.heap.size w w' := by
  obtain ⟨ao, cap, rfl, hc⟩ := ho
  obtain ⟨i0, hi, hz0, hz1, hz2⟩ := info_parts infoStr
  have HK := Lib.hid hk
  have HSt := Lib.hid hs
  have HC := Lib.hid hc
  have HOk := Lib.hid hok
  have HS := Lib.hid hS
  clear hk hs hc hok hS
  go_enter Tryz.func14, Tryz.ntmps14
  go_wp2_with fail
  go_loopw [7, 8] (fun v i wr => ∃ k : Nat, k ≤ l.length ∧ i = .int .i64 (k : Int) ∧ wr.ownsRow w.heap.size 9 1 v k (strs ((runT kt st (l.take k)).map bs)) ∧ (k = 0 → v = .slice none 0 0) ∧ Below w.heap.size w wr) (fun _ i _ => l.length - (intOf i).toNat)
  case atStart => exact ⟨0, Nat.zero_le _, rfl, World.ownsRow_nil _ _ _ _, fun _ => rfl, Below.refl _ _⟩
  case round =>
    obtain ⟨k, hkl, rfl, hrow, hnil, hb⟩ := hrel
    by_cases hlt : k < l.length
    · obtain ⟨x, hx⟩ : ∃ x, x = l[k] := ⟨_, rfl⟩
      obtain ⟨b, off, rfl, hbl, hcell⟩ := HC.out (by intro h; simp [h] at hlt)
      have hcx := hcell k x (by simp [hlt, hx])
      have x0 := (hb.cell (p := ⟨b, off + k * 5, none⟩) hbl).trans hcx.1
      have x1 := (hb.cell (p := ⟨b, off + k * 5 + 1, none⟩) hbl).trans hcx.2.1
      have x2 := (hb.cell (p := ⟨b, off + k * 5 + 2, none⟩) hbl).trans hcx.2.2.1
      have x3 := (hb.cell (p := ⟨b, off + k * 5 + 3, none⟩) hbl).trans hcx.2.2.2.1
      have x4 := (hb.cell (p := ⟨b, off + k * 5 + 4, none⟩) hbl).trans hcx.2.2.2.2
      have hxm : x ∈ l := by rw [hx]; exact List.getElem_mem hlt
      have hrl : ((runT kt st (l.take k)).map bs).length = k := by rw [List.length_map, runT_len, List.length_take]; omega
      have hT := TextsAt.ofRow (l := (runT kt st (l.take k)).map bs) (by rw [hrl]; exact hrow) (fun e => hnil (by rw [← hrl, e]; rfl))
      have hok1 := HOk.out k hkl
      have hst := r14Step_any (HK.out.below hb) (HSt.out.below hb) hT x (HS.out x hxm) hok1 (fun W hW => r14More_any (hT.below hW) x (HS.out x hxm) hok1)
      obtain ⟨T, hTe⟩ : ∃ T, T = stepT kt st (runT kt st (l.take k)) x := ⟨_, rfl⟩
      rw [← hTe] at hst
      have HR : Hid (strs ((runT kt st (l.take k)).map bs) ++ [Value.string (bs T)] = strs ((runT kt st (l.take (k + 1))).map bs)) := by
        unfold Hid
        rw [List.take_succ_eq_append_getElem hlt, runT_snoc, ← hx, ← hTe, List.map_append, List.map_cons, List.map_nil, strs_snoc]
      obtain ⟨vo, vn, vc, rfl⟩ := row_slice hrow
      have HRow := Lib.hid hrow
      have HB := Lib.hid hb
      have hbs := hb.size
      have q1 : decide ((k : Int) < (l.length : Int)) = true := decide_eq_true (by omega)
      obtain ⟨xk, xa, xb, xc, xs⟩ := x
      simp only [OpR.value, OpR.cells] at hst x0 x1 x2 x3 x4
      have HStep := Lib.hid hst
      clear hst hcx hcell hT hok1 hrl hrow hnil hb hx hTe hxm
      generalize bs xs = S at *
      go_wp2_with (first
        | (go_at_call 27; (with_reducible refine HStep.out.mono ?_); rintro e w5 ⟨rfl, b5⟩; have hs5 := b5.size; have hr5 := owns_moves HRow.out (Moves.ofBelow (S := nobody) b5) (fun _ _ h => h); have HR5 := Lib.hid hr5; have HB5 := Lib.hid (HB.out.trans (b5.mono HB.out.size)); clear b5 hr5)
        | (at_builtin; refine wpList_append_own _ rfl _ _ 30 rfl w.heap.size 9 i0 (.string ⟨#[]⟩) 1 16 Tryz.underlying30 hi hz0 hz1 hz2 rfl (by decide) _ _ _ rfl (HR5.out.alloc _) ⟨w5.heap.size, 0, none⟩ 1 1 [.string (bs T)] rfl rfl (cell_one_new w5 _ _) (str_one _) (by unfold maxLen; omega) (by omega) (by simp; omega) ?_; intro v6 w6 ho6 hg6 hn6; have b6 := (HB5.out.alloc HB5.out.size _).grown hg6 (by simp; omega) (fun j hj => (HR5.out.lt j hj).1); rw [HR.out] at ho6; have HB6 := Lib.hid b6; have HO6 := Lib.hid ho6; obtain ⟨p6, n6, c6, rfl⟩ := row_slice ho6; clear b6 ho6 hg6 hn6))
      go_roundw
      case rel => exact ⟨k + 1, by omega, by go_num, HO6.out, fun e => by omega, HB6.out⟩
      case measure => simp [intOf]; omega
    · have hke : k = l.length := by omega
      subst hke
      have q1 : decide ((l.length : Int) < (l.length : Int)) = false := decide_eq_false (by omega)
      rw [List.take_length] at hrow
      have hrl : ((runT kt st l).map bs).length = l.length := by rw [List.length_map, runT_len]
      have hT := TextsAt.ofRow (l := (runT kt st l).map bs) (by rw [hrl]; exact hrow) (fun e => hnil (by rw [← hrl, e]; rfl))
      obtain ⟨vo, vn, vc, rfl⟩ := row_slice hrow
      have H1 := Lib.hid hT
      have H2 := Lib.hid hb
      clear hT hb hrow hnil hrl HC
      go_wp2_with fail
      go_ret
      exact ⟨_, rfl, H1.out, H2.out⟩
end Go.Proofs.YtkigohenfaomkaaGreat

namespace Go.Proofs.YtkigohenfaomkaaGreat
open Go.RowKit

theorem okT_of {L : List Ent} (hG : Good L) {i : Int} {t : List UInt8} (h : TAt L i t) : OkT t := by
  refine ⟨h.short hG, h.nine hG, h.raisable hG, ?_, ?_, ?_⟩
  · intro h9
    rcases h with ⟨_, rfl⟩ | ⟨n, _, hn, rfl⟩
    · simp [kindL] at h9
    · have he : L[n]? = some L[n] := List.getElem?_eq_getElem hn
      rw [hG.enc_eq he, kind_head (hG.sh n _ he)] at h9
      obtain ⟨p, q, hpq⟩ := kind9_args hG he (by omega)
      rw [nodeOf_enc hG he]
      exact ⟨enc L p, enc L q, by unfold nodeSh; rw [hpq]; rfl⟩
  · rcases h with ⟨_, rfl⟩ | ⟨n, _, hn, rfl⟩
    · show (nodeOf []).args.length ≤ 900
      decide
    · have he : L[n]? = some L[n] := List.getElem?_eq_getElem hn
      have hs := hG.sh n _ he
      rw [nodeOf_enc hG he]
      unfold nodeSh
      simp only [List.length_map]
      generalize L[n].sh = sh at *
      cases hs <;> simp <;> omega
  · intro a ha
    rcases h with ⟨_, rfl⟩ | ⟨n, _, hn, rfl⟩
    · exact absurd ha (by show a ∉ (nodeOf []).args; rw [show (nodeOf []).args = [] by decide]; simp)
    · have he : L[n]? = some L[n] := List.getElem?_eq_getElem hn
      rw [nodeOf_enc hG he] at ha
      obtain ⟨u, hu, rfl⟩ := List.mem_map.1 ha
      have hlt := (hG.wf.ok n _ he).args u hu
      exact TAt.short hG (.inr ⟨u, rfl, by omega, rfl⟩)
def evalT (kt st : List (List UInt8)) (l : List OpR) : List UInt8 := if l.length = 0 ∨ 64 < l.length then [] else (runT kt st l).getD (l.length - 1) []
set_option maxRecDepth 100000 in
theorem r14Eval_any {w : World} {vk vs vo : Value} {kt st : List (List UInt8)} {l : List OpR} (hk : TextsAt w vk (kt.map bs)) (hs : TextsAt w vs (st.map bs)) (ho : OpsAt w vo l) (hl : l.length ≤ 1000) (hS : ∀ o ∈ l, o.s.length ≤ 10000)
    (hok : l.length ≤ 64 → ∀ k, k ≤ l.length → ∀ i, OkT (atT (runT kt st (l.take k)) i)) :
    Calls Tryz.prog 12 #[vk, vs, vo] w fun e w' => e = .returned (.string (bs (evalT kt st l))) ∧ Below w.heap.size w w' := by
  unfold evalT
  by_cases h : l.length = 0 ∨ 64 < l.length
  · rw [if_pos h, show bs ([] : List UInt8) = ⟨#[]⟩ from rfl]
    obtain ⟨ao, cap, rfl, _⟩ := ho
    clear hok
    generalize l.length = n at *
    by_cases h0 : n = 0
    · subst h0
      clear h
      go_enter Tryz.func12, Tryz.ntmps12
      go_wp2_with fail
      go_ret
      exact ⟨rfl, Below.refl _ _⟩
    · have q0 : ((n : Int) == 0) = false := by simp; omega
      have q1 : decide ((n : Int) > 64) = true := decide_eq_true (by omega)
      clear h h0
      go_enter Tryz.func12, Tryz.ntmps12
      go_wp2_with fail
      go_ret
      exact ⟨rfl, Below.refl _ _⟩
  · rw [if_neg h]
    have q0 : ((l.length : Int) == 0) = false := by simp; intro e; simp [e] at h
    have q1 : decide ((l.length : Int) > 64) = false := decide_eq_false (by omega)
    have HAl := Lib.hid (r14All_any hk hs ho hl hS (hok (by omega)))
    have hrl := runT_len kt st l
    obtain ⟨ao, cap, rfl, _⟩ := ho
    have hn1 : 0 < l.length := by omega
    have hn2 : l.length ≤ 64 := by omega
    clear hok hk hs h
    generalize runT kt st l = R at *
    generalize l.length = n at *
    go_enter Tryz.func12, Tryz.ntmps12
    go_wp2_with (go_at_call 14; (with_reducible refine HAl.out.mono ?_); rintro e w5 ⟨v5, rfl, hT5, b5⟩; obtain ⟨a5, c5, rfl, hc5⟩ := hT5; rw [List.length_map, hrl]; obtain ⟨b, off, rfl, hbl, hat⟩ := hc5 (by intro e; simp at e; rw [e] at hrl; simp at hrl; omega); have c0 := hat (n - 1) (bs (R.getD (n - 1) [])) (by rw [List.getElem?_map, List.getD_eq_getElem?_getD, List.getElem?_eq_getElem (by omega)]; rfl); have en : off + (n - 1) = off + ((n : Int) - 1).toNat := (by omega); rw [en] at c0; have HB5 := Lib.hid b5; clear b5 hat)
    go_ret
    exact ⟨rfl, HB5.out⟩
end Go.Proofs.YtkigohenfaomkaaGreat
