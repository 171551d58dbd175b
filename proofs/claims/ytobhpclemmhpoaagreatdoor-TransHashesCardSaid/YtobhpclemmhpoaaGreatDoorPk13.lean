/- Part 13 of what the statement wants. -/
import Derived.BigRegion
import Derived.Test.YtobhpclemmhpoaaGreatDoorPk10
import Derived.Test.YtobhpclemmhpoaaGreatDoorPk12
namespace Go.Proofs.YtobhpclemmhpoaaGreatDoor
open Go.RowKit

/-- Block k is a row of bytes. -/
def isByte (w : World) (k : Nat) : Prop := ∃ cs fr, w.heap[k]? = some (.cells cs 5 fr)
/-- Nothing old turned but block bo, and rows of bytes from X on. -/
def BM (X bo : Nat) (w w' : World) : Prop := Moves (fun k => k = bo ∨ (X ≤ k ∧ isByte w k)) w w'
theorem BM.trans {X bo : Nat} {a b c : World} (h : BM X bo a b) (k : BM X bo b c) : BM X bo a c := Moves.trans h k fun i hi => by
  by_cases hs : i = bo ∨ X ≤ i ∧ isByte a i
  · exact .inl hs
  · right
    rcases Nat.lt_or_ge i a.heap.size with hlt | hge
    · have hb := Moves.block h i hlt hs
      rcases hi with rfl | ⟨h1, cs, fr, h2⟩
      · exact absurd (.inl rfl) hs
      · exact absurd (.inr ⟨h1, cs, fr, hb.symm.trans h2⟩) hs
    · exact hge
theorem BM.of {X bo : Nat} {w w' : World} (h : Moves nobody w w') : BM X bo w w' := h.mono fun _ h _ => h.elim
theorem BM.holds {X bo g : Nat} {t : TypeId} {cs : Array Value} {w w' : World} (m : BM X bo w w') (h : Holds w g t cs) (hg : g ≠ bo) (ht : t ≠ 5) : Holds w' g t cs :=
  Holds.moves h m (by
    rintro (e | ⟨_, c, fr, h2⟩)
    · exact hg e
    · unfold Holds at h
      rw [h] at h2
      injection h2 with h2
      injection h2 with _ h3
      exact ht h3)
theorem BM.row {X bo base n size : Nat} {t : TypeId} {v : Value} {xs : List Value} {w w' : World} (m : BM X bo w w') (h : w.ownsRow base t size v n xs) (hv : v.ownBlock ≠ some bo) (ht : t ≠ 5) : w'.ownsRow base t size v n xs :=
  owns_moves h m fun k hk => by
    rintro (e | ⟨_, c, fr, h2⟩)
    · exact hv (e ▸ hk)
    · rcases h.2 with ⟨rfl, _⟩ | ⟨g, cap, cur, rfl, _, hg, _⟩
      · simp [Value.ownBlock] at hk
      · have : g = k := by simpa [Value.ownBlock] using hk
        subst this
        rw [hg] at h2
        injection h2 with h2
        injection h2 with _ h3
        exact ht h3
theorem BM.arena {X bo B A : Nat} {L : List Ent} {F : Nat → Prop} {w w' : World} (m : BM X bo w w') (h : ArenaAt B A L F w) (hF : ∀ k, F k → k < X) (hbo : X ≤ bo) : ArenaAt B A L F w' :=
  h.moves m fun k hk => by
    have := hF k hk
    rintro (e | ⟨h1, _⟩)
    · omega
    · omega
theorem BM.append {X bo n : Nat} {v : Value} {xs : List Value} {w w' : World} (hown : w.ownsRow X 5 1 v n xs) (hg : w.grownBy w' v.ownBlock) : BM X bo w w' :=
  ((Moves.refl (fun k => k = bo ∨ (X ≤ k ∧ isByte w k)) w).grown hg fun k hk => by
    left; right
    rcases hown.2 with ⟨rfl, _⟩ | ⟨g, cap, cur, rfl, hb, hg, _⟩
    · simp [Value.ownBlock] at hk
    · have : g = k := by simpa [Value.ownBlock] using hk
      subst this
      exact ⟨hb, cur, _, hg⟩)
theorem headL_pos (sh : Shp) (h1 : 1 ≤ sh.kind) (h2 : sh.kind ≤ 10) : 0 < (headL sh).length := by
  obtain ⟨k, a, b, s, l⟩ := sh
  simp only at h1 h2
  obtain rfl | rfl | rfl | rfl | rfl | rfl | rfl | rfl | rfl | rfl : k = 1 ∨ k = 2 ∨ k = 3 ∨ k = 4 ∨ k = 5 ∨ k = 6 ∨ k = 7 ∨ k = 8 ∨ k = 9 ∨ k = 10 := by omega
  all_goals simp [headL]

def Encodable (L : List Ent) : Prop := ∀ (n : Nat) (e : Ent), L[n]? = some e → 1 ≤ e.sh.kind ∧ (e.sh.kind = 8 → e.sh.b ≤ 255)
def putV (ba bo bp : Nat) : Value := .func (.func 24) #[] #[.pointer (some ⟨ba, 0, none⟩), .pointer (some ⟨bo, 0, none⟩), .pointer (some ⟨bp, 0, none⟩)]

set_option maxRecDepth 100000 in
theorem enc1_any {X bo ba bp A B : Nat} {L : List Ent} {F : Nat → Prop} (hL : Encodable L) (hF : ∀ k, F k → k < X) (hXb : X ≤ bo) :
    ∀ (n : Nat) (e : Ent) (w : World) (v : Value) (m : Nat) (xs : List Value), ArenaAt B A L F w → Holds w ba 34 #[.pointer (some ⟨A, 0, none⟩)] → Holds w bp 73 #[putV ba bo bp] → Holds w bo 71 #[v] → w.ownsRow X 5 1 v m xs → X ≤ w.heap.size →
      L[n]? = some e → m + (enc L n).length ≤ 200000 →
    Calls Tryz.prog 24 #[.int .i64 n, .pointer (some ⟨ba, 0, none⟩), .pointer (some ⟨bo, 0, none⟩), .pointer (some ⟨bp, 0, none⟩)] w fun r w' => r = .returned (.tuple #[]) ∧
      ∃ v', Holds w' bo 71 #[v'] ∧ w'.ownsRow X 5 1 v' (m + (enc L n).length) (xs ++ byteCells (enc L n)) ∧ BM X bo w w' := by
  intro n
  induction n using Nat.strongRecOn with
  | ind n ih =>
  intro e w v m xs ha hba hbp hbo hown hX he hm
  have hok := ha.wf.ok n e he
  obtain ⟨hk1, h8⟩ := hL n e he
  have hen := enc_eq he hok.args
  have hpos := headL_pos e.sh hk1 hok.kind
  have hlen : (enc L n).length = (headL e.sh).length + ((e.sh.args.map (enc L)).flatten).length := by rw [hen, List.length_append]
  have hab : ba ≠ bo := by
    rintro rfl
    unfold Holds at hba hbo
    rw [hba] at hbo
    injection hbo with hbo
    injection hbo with _ h
    exact absurd h (by decide)
  have hpb : bp ≠ bo := by
    rintro rfl
    unfold Holds at hbp hbo
    rw [hbp] at hbo
    injection hbo with hbo
    injection hbo with _ h
    exact absurd h (by decide)
  have hargs := hok.args
  have hmany := hok.many
  have hv := View_some ha he
  have hh := fun (o : Option Addr) (c : Nat) (W : World) => head_any e.sh hk1 hok.kind hok.a hok.b h8 (by have := hok.s; omega) hok.many o c W
  clear hok hk1 h8
  obtain ⟨⟨kE, aE, bE, sE, l⟩, zE⟩ := e
  simp only [nodeV] at hv hh hargs hen hpos hlen hmany
  have hc0 : w.cell? ⟨ba, 0, none⟩ = some (.pointer (some ⟨A, 0, none⟩)) := hba.cell 0
  have hbol := hbo.lt
  generalize hHL : headL ⟨kE, aE, bE, sE, l⟩ = hl at *
  clear hHL
  have HEN := Lib.hid hen
  have HLE := Lib.hid hlen
  have HM := Lib.hid hm
  have HP := Lib.hid hpos
  have HIH := Lib.hid ih
  clear hen hlen hm hpos ih
  go_enter Tryz.func24, Tryz.ntmps24
  go_wp2_with (
    go_at_call 19
    refine hv.mono ?_
    rintro r w1 ⟨g, rfl, hrow, hb1⟩)
  obtain ⟨N, hN⟩ : ∃ N, N = w1.heap.size := ⟨_, rfl⟩
  obtain ⟨W0, hW0⟩ : ∃ W0, W0 = (w1.alloc (.cells #[.int .i64 kE, .int .i64 aE, .int .i64 bE, .string sE, .slice (some ⟨g, 0, none⟩) l.length l.length] 60)) := ⟨_, rfl⟩
  have hN0 : Holds W0 N 60 #[.int .i64 kE, .int .i64 aE, .int .i64 bE, .string sE, .slice (some ⟨g, 0, none⟩) l.length l.length] := by rw [hW0, hN]; exact Holds.new _ _ _
  rw [← hN, ← hW0]
  have hm0 : Moves nobody w W0 := by rw [hW0]; exact (Moves.ofBelow hb1).alloc _
  have hrow0 : W0.ownsRow w.heap.size 36 1 (.slice (some ⟨g, 0, none⟩) l.length l.length) l.length (ints l) := by rw [hW0]; exact hrow.alloc _
  have hbo1 : Holds W0 bo 71 #[v] := hbo.moves hm0 fun h => h
  have hbl0 := hbo1.lt
  have hbN : N ≠ bo := by have := hb1.size; omega
  have hown0 : W0.ownsRow X 5 1 v m xs := owns_moves hown hm0 fun _ _ h => h
  have hX0 : X ≤ W0.heap.size := Nat.le_trans hX hm0.size
  have ha0 := ha.moves hm0 fun _ _ h => h
  have hba0 := hba.moves hm0 fun h => h
  have hbp0 := hbp.moves hm0 fun h => h
  have HM0 := Lib.hid (BM.of (X := X) (bo := bo) hm0)
  clear hb1 hv hba hbp hN hW0 hrow hm0 hown hbo ha hX hc0 hbol
  have n0 : W0.drew.cell? ⟨N, 0, none⟩ = some (.int .i64 kE) := hN0.cell 0
  have n1 : W0.drew.cell? ⟨N, 1, none⟩ = some (.int .i64 aE) := hN0.cell 1
  have n2 : W0.drew.cell? ⟨N, 2, none⟩ = some (.int .i64 bE) := hN0.cell 2
  have n3 : W0.drew.cell? ⟨N, 3, none⟩ = some (.string sE) := hN0.cell 3
  have n4 : W0.drew.cell? ⟨N, 4, none⟩ = some (.slice (some ⟨g, 0, none⟩) l.length l.length) := hN0.cell 4
  have o0 : W0.drew.cell? ⟨bo, 0, none⟩ = some v := hbo1.cell 0
  have oo0 : W0.cell? ⟨bo, 0, none⟩ = some v := hbo1.cell 0
  have hnn : m + hl.length ≤ 1000000000 := by have := HLE.out; have := HM.out; omega
  go_region_law (first
    | (refine step_append_bytes rfl (.tmp 15) (.tmp 17) rfl rfl rfl hown3 hl rfl HP.out hnn (Nat.le_trans hX0 hm3.size) ?_
       intro g4 cap4 w4 hown4 hg4
       have hbo4 : Holds w4 bo 71 #[v] := (hg4.block bo hbo3.lt (row_ne hown3 hbo3 (by decide))).trans hbo3
       have o4 := Holds.cell hbo4 0
       have f4 := Holds.frozen hbo4 0)
    | (go_simp
       go_at_call 25
       refine (hh _ _ _).mono ?_
       rintro r w3 ⟨rfl, hb3⟩
       have hm3 : Moves nobody W0 w3 := ((Moves.refl nobody W0).drew).trans (T := nobody) (Moves.ofBelow hb3) fun _ h => h.elim
       have hbo3 := hbo1.moves hm3 fun h => h
       have o3 := Holds.cell hbo3 0
       have hown3 := owns_moves hown0 hm3 fun _ _ h => h))
  all_goals
    have hset := (Moves.refl (fun k => k = bo) w4).setCell (p := ⟨bo, 0, none⟩) (.inl rfl) (.slice (some ⟨g4, 0, none⟩) (m + hl.length) cap4)
    have hbo5 := Holds.set hbo4 0 (.slice (some ⟨g4, 0, none⟩) (m + hl.length) cap4)
    have hown5 := owns_moves hown4 hset fun k hk => by rintro rfl; exact row_ne hown4 hbo4 (by decide) hk.symm
    have hB5 : BM X bo W0 _ := ((BM.of (X := X) (bo := bo) hm3).trans (BM.append hown3 hg4)).trans (hset.mono fun k h _ => .inl h)
    have ha5 := hB5.arena ha0 hF hXb
    have hba5 := hB5.holds hba0 hab (by decide)
    have hbp5 := hB5.holds hbp0 hpb (by decide)
    have hN5 := hB5.holds hN0 hbN (by decide)
    have hrow5 := hB5.row hrow0 (fun h => row_ne hrow0 hbo1 (by decide) h.symm) (by decide)
    have hgb : Value.ownBlock (.slice (some ⟨g, 0, none⟩) l.length l.length) ≠ some bo := fun h => row_ne hrow0 hbo1 (by decide) h.symm
    have hX5 := Nat.le_trans hX0 (Moves.size hB5)
    have HB := Lib.hid (HM0.out.trans hB5)
    clear hset hbo4 hown4 hg4 hm3 hbo3 hown3 hB5 ha0 hba0 hbp0 hN0 hrow0 hbo1 hown0 hX0 o4 f4 o3 n0 n1 n2 n3 n4 o0 oo0 hnn hh hbl0 hb3
    generalize w4.setCell ⟨bo, 0, none⟩ (.slice (some ⟨g4, 0, none⟩) (m + hl.length) cap4) = W5 at *
    have q4 := Holds.cell hN5 4
    go_wp2_with fail
    go_loopw [22] (fun i wr => ∃ (k : Nat) (v' : Value), k ≤ l.length ∧ i = .int .i64 k ∧ Holds wr bo 71 #[v'] ∧ wr.ownsRow X 5 1 v' (m + hl.length + (((l.take k).map (enc L)).flatten).length) (xs ++ byteCells (hl ++ ((l.take k).map (enc L)).flatten)) ∧ BM X bo W5 wr) (fun i _ => l.length - (intOf i).toNat)
    case atStart => exact ⟨0, _, Nat.zero_le _, rfl, hbo5, by simpa using hown5, BM.of (Moves.refl _ _)⟩
    case round =>
      clear hbo5 hown5 q4
      obtain ⟨k, v', hk, rfl, hbo', hown', hbm⟩ := hrel
      by_cases hlt : k < l.length
      · obtain ⟨t, hT⟩ : ∃ t, t = l[k] := ⟨_, rfl⟩
        have htn : t < n := hargs t (by rw [hT]; exact List.getElem_mem hlt)
        have hnL := (List.getElem?_eq_some_iff.1 he).1
        have htL : t < L.length := Nat.lt_trans htn hnL
        have hsum : (((l.take (k + 1)).map (enc L)).flatten) = ((l.take k).map (enc L)).flatten ++ enc L t := by
          rw [List.take_succ_eq_append_getElem hlt, ← hT]
          simp
        have hle : (((l.take (k + 1)).map (enc L)).flatten).length ≤ ((l.map (enc L)).flatten).length := by
          conv => rhs; rw [← List.take_append_drop (k + 1) l]
          rw [List.map_append, List.flatten_append, List.length_append]
          exact Nat.le_add_right _ _
        have hlen2 : (((l.take (k + 1)).map (enc L)).flatten).length = (((l.take k).map (enc L)).flatten).length + (enc L t).length := by rw [hsum, List.length_append]
        have hcell : wr.cell? ⟨g, k, none⟩ = some (.int .i64 (t : Nat)) := by
          have := (hbm.row hrow5 hgb (by decide)).cells (g := g) rfl k (.int .i64 (t : Nat)) (by simp [ints, hlt, hT])
          rwa [Addr.add_lit, Nat.zero_add] at this
        have hcall := HIH.out t htn L[t] wr v' _ _ (hbm.arena ha5 hF hXb) (hbm.holds hba5 hab (by decide)) (hbm.holds hbp5 hpb (by decide)) hbo' hown' (Nat.le_trans hX5 (Moves.size hbm)) (List.getElem?_eq_getElem htL) (by have := HLE.out; have := HM.out; omega)
        have hp0 : wr.cell? ⟨bp, 0, none⟩ = some (putV ba bo bp) := (hbm.holds hbp5 hpb (by decide)).cell 0
        unfold putV at hp0
        have HS := Lib.hid hsum
        have HL2 := Lib.hid hlen2
        have HBM := Lib.hid hbm
        clear hle hlen2 hsum hT hown' hbo' hbm htL hnL ha5 hba5 hbp5 hN5 hrow5 hgb hX5 hargs
        go_wp2_with (
          go_at_call 24
          refine hcall.mono ?_
          rintro r w6 ⟨rfl, v6, hbo6, hown6, hbm6⟩)
        go_roundw
        case rel =>
          refine ⟨k + 1, v6, by omega, by go_num, hbo6, ?_, HBM.out.trans hbm6⟩
          rw [HL2.out, HS.out, ← Nat.add_assoc, ← List.append_assoc, byteCells_append _ (enc L t), ← List.append_assoc]
          exact hown6
        case measure => simp [intOf]; omega
      · have hkl : k = l.length := by omega
        subst hkl
        rw [List.take_length] at hown'
        have HE : Hid (wr.ownsRow X 5 1 v' (m + (enc L n).length) (xs ++ byteCells (enc L n))) := by
          refine Lib.hid ?_
          rw [HLE.out, HEN.out, ← Nat.add_assoc]
          exact hown'
        have HBM := Lib.hid (HB.out.trans hbm)
        clear hown' hbm ha5 hba5 hbp5 hN5 hrow5
        go_wp2_with fail
        go_end0
        exact ⟨rfl, v', hbo', HE.out, HBM.out⟩
end Go.Proofs.YtobhpclemmhpoaaGreatDoor

namespace Go.Proofs.YtobhpclemmhpoaaGreatDoor
open Go.RowKit

theorem Good.encodable {L : List Ent} (h : Good L) : Encodable L := fun n e he => by
  have := h.sh n e he
  obtain ⟨sh, z⟩ := e
  simp only at this ⊢
  cases this <;> simp
  assumption

theorem headL_length {L : List Ent} {sh : Shp} (h : GoodSh L sh) : (headL sh).length = ownOf sh.kind + sh.s.size := by
  have h0 : (noStr : ByteArray).size = 0 := rfl
  have hc : ∀ s : ByteArray, (cnt s.data.toList).length = 4 + s.size := cnt_length
  cases h <;> simp [headL, ownOf, hc, pack4, h0] <;> omega

theorem enc_length {L : List Ent} (h : Good L) (n : Nat) : ∀ e, L[n]? = some e → (enc L n).length = e.size := by
  induction n using Nat.strongRecOn with
  | ind n ih =>
  intro e he
  have hok := h.wf.ok n e he
  rw [enc_eq he hok.args, List.length_append, headL_length (h.sh n e he), h.size n e he]
  congr 1
  rw [List.length_flatten, List.map_map]
  unfold sumN
  congr 1
  refine List.map_congr_left fun t ht => ?_
  have htn := hok.args t ht
  have hn := (List.getElem?_eq_some_iff.1 he).1
  have hx : L[t]? = some L[t] := List.getElem?_eq_getElem (by omega)
  simp only [Function.comp, ih t htn L[t] hx, sizeN, hx, Option.map_some, Option.getD_some]
end Go.Proofs.YtobhpclemmhpoaaGreatDoor

namespace Go.Proofs.YtobhpclemmhpoaaGreatDoor
open Go.RowKit

theorem pack4_app {a b : Nat} {x y : List UInt8} (ha : a < 4294967296) (hb : b < 4294967296) (h : pack4 a ++ x = pack4 b ++ y) : a = b ∧ x = y := by
  obtain ⟨h1, h2⟩ := List.append_inj h rfl
  have := congrArg num4 h1
  rw [num4_pack a ha, num4_pack b hb] at this
  exact ⟨this, h2⟩
theorem cnt_app {s t : ByteArray} {x y : List UInt8} (hs : s.size < 4294967296) (ht : t.size < 4294967296) (h : cnt s.data.toList ++ x = cnt t.data.toList ++ y) : s = t ∧ x = y := by
  have e1 : s.data.toList.length = s.size := by rw [Array.length_toList]; rfl
  have e2 : t.data.toList.length = t.size := by rw [Array.length_toList]; rfl
  unfold cnt at h
  rw [List.append_assoc, List.append_assoc] at h
  obtain ⟨h1, h2⟩ := pack4_app (by omega) (by omega) h
  obtain ⟨h3, h4⟩ := List.append_inj h2 h1
  refine ⟨?_, h4⟩
  rw [← bs_list s, ← bs_list t, h3]

theorem head_apart {L : List Ent} {p q : Shp} {n m : Nat} {x y : List UInt8} (hp : GoodSh L p) (hq : GoodSh L q) (hp' : p.Ok n) (hq' : q.Ok m) (h : headL p ++ x = headL q ++ y) :
    p.kind = q.kind ∧ p.a = q.a ∧ p.b = q.b ∧ p.s = q.s ∧ p.args.length = q.args.length ∧ x = y := by
  have s1 := hp'.s
  have s2 := hq'.s
  cases hp <;> cases hq <;> simp [headL] at h s1 s2 ⊢
  · obtain ⟨rfl, rfl⟩ := cnt_app (by omega) (by omega) h
    exact ⟨rfl, rfl⟩
  · obtain ⟨e1, h2⟩ := pack4_app (by omega) (by omega) h
    obtain ⟨e2, e3⟩ := pack4_app (by omega) (by omega) h2
    exact ⟨e1, e2, e3⟩
  · obtain ⟨rfl, rfl⟩ := pack4_app (by omega) (by omega) h
    exact ⟨rfl, rfl⟩
  · exact h
  · obtain ⟨e1, h2⟩ := cnt_app (by omega) (by omega) h
    obtain ⟨e2, e3⟩ := pack4_app (by omega) (by omega) h2
    exact ⟨e1, e2, e3⟩
  · obtain ⟨rfl, rfl⟩ := cnt_app (by omega) (by omega) h
    exact ⟨rfl, rfl⟩
  · exact h
  · rename_i c _ _ _ hc _ _ _ c' _ _ _ hc' _ _ _
    obtain ⟨h1, rfl⟩ := h
    have := congrArg UInt8.toNat h1
    rw [UInt8.toNat_ofNat', UInt8.toNat_ofNat'] at this
    exact ⟨by omega, rfl⟩
  · obtain ⟨rfl, rfl⟩ := pack4_app (by omega) (by omega) h
    exact ⟨rfl, rfl⟩
  · obtain ⟨h1, rfl⟩ := pack4_app (by omega) (by omega) h
    exact ⟨h1, rfl⟩

theorem args_apart {L : List Ent} {i : Nat} (ih : ∀ t, t < i → ∀ j x y, t < L.length → j < L.length → enc L t ++ x = enc L j ++ y → t = j ∧ x = y) :
    ∀ (l l' : List Nat) (x y : List UInt8), (∀ t ∈ l, t < i ∧ t < L.length) → (∀ t ∈ l', t < L.length) → l.length = l'.length → (l.map (enc L)).flatten ++ x = (l'.map (enc L)).flatten ++ y → l = l' ∧ x = y
  | [], [], x, y, _, _, _, h => ⟨rfl, by simpa using h⟩
  | t :: l, j :: l', x, y, h1, h2, h3, h => by
    simp only [List.map_cons, List.flatten_cons, List.append_assoc] at h
    obtain ⟨e1, h4⟩ := ih t (h1 t (by simp)).1 j _ _ (h1 t (by simp)).2 (h2 j (by simp)) h
    obtain ⟨e2, e3⟩ := args_apart ih l l' x y (fun u hu => h1 u (by simp [hu])) (fun u hu => h2 u (by simp [hu])) (by simpa using h3) h4
    exact ⟨by rw [e1, e2], e3⟩

theorem enc_apart {L : List Ent} (h : Good L) (i : Nat) : ∀ j x y, i < L.length → j < L.length → enc L i ++ x = enc L j ++ y → i = j ∧ x = y := by
  induction i using Nat.strongRecOn with
  | ind i ih =>
  intro j x y hi hj he
  have hi' : L[i]? = some L[i] := List.getElem?_eq_getElem hi
  have hj' : L[j]? = some L[j] := List.getElem?_eq_getElem hj
  have oki := h.wf.ok i _ hi'
  have okj := h.wf.ok j _ hj'
  rw [enc_eq hi' oki.args, enc_eq hj' okj.args, List.append_assoc, List.append_assoc] at he
  obtain ⟨h1, h2, h3, h4, h5, h6⟩ := head_apart (h.sh i _ hi') (h.sh j _ hj') oki okj he
  obtain ⟨h7, h8⟩ := args_apart ih _ _ _ _ (fun t ht => ⟨oki.args t ht, by have := oki.args t ht; omega⟩) (fun t ht => by have := okj.args t ht; omega) h5 h6
  refine ⟨?_, h8⟩
  have hsh : L[i].sh = L[j].sh := by
    revert h1 h2 h3 h4 h7
    obtain ⟨⟨k, a, b, s, l⟩, z⟩ := L[i]
    obtain ⟨⟨k', a', b', s', l'⟩, z'⟩ := L[j]
    rintro rfl rfl rfl rfl rfl
    rfl
  have hnd := h.wf.apart
  have hp := List.pairwise_iff_getElem.1 hnd
  rcases Nat.lt_trichotomy i j with hlt | heq | hlt
  · exact absurd (by rw [List.getElem_map, List.getElem_map]; exact hsh) (hp i j (by simpa using hi) (by simpa using hj) hlt)
  · exact heq
  · exact absurd (by rw [List.getElem_map, List.getElem_map]; exact hsh.symm) (hp j i (by simpa using hj) (by simpa using hi) hlt)
end Go.Proofs.YtobhpclemmhpoaaGreatDoor
