/- Part 19 of what the statement wants. -/
import Derived.Deep.RegionHeld3
import Derived.Laws.EntriesVeiled
import Derived.Test.YtobhpclemmhpoaaGreatDoorPk13
import Derived.Test.YtobhpclemmhpoaaGreatDoorPk14
import Derived.Test.YtobhpclemmhpoaaGreatDoorPk18
namespace Go.Proofs.YtobhpclemmhpoaaGreatDoor
open Go.RowKit

/-- A slice value that reads as the makes l. -/
def MakesAt (w : World) (v : Value) (l : List MakeR) : Prop :=
  ∃ ao cap, v = .slice ao l.length cap ∧ (l ≠ [] → ∃ b off, ao = some ⟨b, off, none⟩ ∧ b < w.heap.size ∧ ∀ k x, l[k]? = some x →
    w.cell? ⟨b, off + k * 5, none⟩ = some (.int .i64 x.kind) ∧ w.cell? ⟨b, off + k * 5 + 1, none⟩ = some (.int .i64 x.a) ∧ w.cell? ⟨b, off + k * 5 + 2, none⟩ = some (.int .i64 x.b) ∧
    w.cell? ⟨b, off + k * 5 + 3, none⟩ = some (.int .i64 x.c) ∧ w.cell? ⟨b, off + k * 5 + 4, none⟩ = some (.string (bs x.s)))
def fewP (l : List MakeR) (m : Int) : Bool := decide ((l.length : Int) ≤ m ∧ ∀ x ∈ l, x.s.length ≤ 200)

set_option maxRecDepth 100000 in
theorem few_any {w : World} {v : Value} {l : List MakeR} (h : MakesAt w v l) (m : Int) (hs : ∀ x ∈ l, x.s.length ≤ 9223372036854775807) (hl : l.length ≤ 9223372036854775807) :
    Calls Tryz.prog 5 #[v, .int .i64 m] w fun e w' => e = .returned (.bool (fewP l m)) ∧ w' = w := by
  obtain ⟨ao, cap, rfl, hc⟩ := h
  by_cases hm : (l.length : Int) ≤ m
  · have q0 : decide ((l.length : Int) > m) = false := decide_eq_false (by omega)
    have HC := Lib.hid hc
    have HS := Lib.hid hs
    clear hc hs
    go_enter Tryz.func5, Tryz.ntmps5
    go_wp2_with fail
    go_loopw [5] (fun i wr => ∃ k : Nat, k ≤ l.length ∧ i = .int .i64 (k : Int) ∧ (∀ x ∈ l.take k, x.s.length ≤ 200) ∧ wr = w) (fun i _ => l.length - (intOf i).toNat)
    case atStart => exact ⟨0, Nat.zero_le _, rfl, by simp, rfl⟩
    case round =>
      obtain ⟨k, hk, rfl, hall, rfl⟩ := hrel
      have HAll := Lib.hid hall
      clear hall
      by_cases hlt : k < l.length
      · obtain ⟨b, off, rfl, hb, hcell⟩ := HC.out (by intro h; simp [h] at hlt)
        obtain ⟨x, hx⟩ : ∃ x, x = l[k] := ⟨_, rfl⟩
        have c4 := (hcell k x (by simp [hlt, hx])).2.2.2.2
        have hsz := bs_size x.s
        have hxs := HS.out x (by rw [hx]; exact List.getElem_mem hlt)
        have q1 : decide ((k : Int) < (l.length : Int)) = true := decide_eq_true (by omega)
        by_cases h2 : x.s.length ≤ 200
        · have HN : Hid (∀ y ∈ l.take (k + 1), y.s.length ≤ 200) := fun y hy => by
            rw [List.take_succ_eq_append_getElem hlt, List.mem_append] at hy
            rcases hy with hy | hy
            · exact HAll.out y hy
            · simp at hy
              rw [hy, ← hx]; exact h2
          have q2 : decide (((bs x.s).size : Int) > 200) = false := decide_eq_false (by omega)
          clear hcell hx
          go_wp2_with fail
          go_roundw
          case rel => exact ⟨k + 1, by omega, by go_num, HN.out, trivial⟩
          case measure => simp [intOf]; omega
        · have HF : Hid (fewP l m = false) := decide_eq_false (fun h => h2 (h.2 x (by rw [hx]; exact List.getElem_mem hlt)))
          have q2 : decide (((bs x.s).size : Int) > 200) = true := decide_eq_true (by omega)
          clear hcell hx
          go_wp2_with fail
          go_ret
          exact ⟨by rw [HF.out]; rfl, rfl⟩
      · have hkl : k = l.length := by omega
        subst hkl
        have HT : Hid (fewP l m = true) := decide_eq_true ⟨hm, fun x hx => HAll.out x (by rw [List.take_length]; exact hx)⟩
        have q1 : decide ((l.length : Int) < (l.length : Int)) = false := decide_eq_false (by omega)
        clear HC
        go_wp2_with fail
        go_ret
        exact ⟨by rw [HT.out]; rfl, rfl⟩
  · have q0 : decide ((l.length : Int) > m) = true := decide_eq_true (by omega)
    have HF : Hid (fewP l m = false) := decide_eq_false (fun h => hm h.1)
    clear hc hs
    generalize l.length = n at *
    go_enter Tryz.func5, Tryz.ntmps5
    go_wp2_with fail
    go_ret
    exact ⟨by rw [HF.out]; rfl, rfl⟩
end Go.Proofs.YtobhpclemmhpoaaGreatDoor

namespace Go.Proofs.YtobhpclemmhpoaaGreatDoor
open Go.RowKit

/-- What is made, one behind the other, from the arena L0 on. -/
inductive MadeTo (L0 : List Ent) : List MakeR → List Ent → List Int → List (List UInt8) → Prop
  | nil : MadeTo L0 [] L0 [] []
  | snoc {xs : List MakeR} {L : List Ent} {ids : List Int} {texts : List (List UInt8)} {x : MakeR} {m : Int × List Ent} (h : MadeTo L0 xs L ids texts) (k : IdTo L ids texts x m) : MadeTo L0 (xs ++ [x]) m.2 (ids ++ [m.1]) (texts ++ [mtextP ids texts x])
theorem MadeTo.lens {L0 : List Ent} {xs : List MakeR} {L : List Ent} {ids : List Int} {texts : List (List UInt8)} (h : MadeTo L0 xs L ids texts) : ids.length = xs.length ∧ texts.length = xs.length := by
  induction h with
  | nil => exact ⟨rfl, rfl⟩
  | snoc h k ih => simp [ih.1, ih.2]
/-- What the walk asks of each state on the way. -/
structure MadeOk (l : List MakeR) (L : List Ent) (ids : List Int) (texts : List (List UInt8)) : Prop where
  few : L.length < 1073741824
  short : ∀ t ∈ texts, t.length ≤ 131072
  raise : ∀ t ∈ texts, Raisable t
  exps : ∀ x ∈ l, x.kind = 5 → (pickP ids texts x.b).2.length ≤ 10000 ∨ kindL (pickP ids texts x.b).2 ≠ 2
/-- A slice that could be cut to any of its length. -/
def Caps (v : Value) : Prop := ∀ o n c, v = .slice o n c → n ≤ c ∧ c ≤ maxLen
theorem row_caps {w : World} {base n : Nat} {e : TypeId} {v : Value} {xs : List Value} (h : w.ownsRow base e 1 v n xs) : Caps v := by
  intro o m c hv
  rcases h.2 with ⟨rfl, _⟩ | ⟨g, cap, cur, rfl, _, _, h1, h2, _⟩
  · injection hv with _ h1 h2
    subst h1 h2
    exact ⟨Nat.le_refl _, Nat.zero_le _⟩
  · injection hv with _ h3 h4
    subst h3 h4
    exact ⟨h1, h2⟩
end Go.Proofs.YtobhpclemmhpoaaGreatDoor

namespace Go.Proofs.YtobhpclemmhpoaaGreatDoor
open Go.RowKit

/-- The terms that were made, each beside its text. -/
structure Paired (L : List Ent) (ids : List Int) (texts : List (List UInt8)) : Prop where
  len : ids.length = texts.length
  at_ : ∀ (k : Nat) (i : Int) (t : List UInt8), ids[k]? = some i → texts[k]? = some t → TAt L i t
theorem Paired.pick {L : List Ent} {ids : List Int} {texts : List (List UInt8)} (h : Paired L ids texts) (i : Int) : TAt L (pickP ids texts i).1 (pickP ids texts i).2 := by
  unfold pickP
  split
  · rename_i hh
    have hk : i.toNat < ids.length := by omega
    have hkt : i.toNat < texts.length := by rw [← h.len]; exact hk
    refine h.at_ i.toNat _ _ ?_ ?_
    · simp [List.getD, hk]
    · simp [List.getD, hkt]
  · exact .inl ⟨rfl, rfl⟩
theorem Paired.pre {L M : List Ent} {ids : List Int} {texts : List (List UInt8)} (h : Paired L ids texts) (hG : Good M) (hp : L <+: M) : Paired M ids texts :=
  ⟨h.len, fun k i t h1 h2 => (h.at_ k i t h1 h2).pre hG hp⟩
theorem Paired.snoc {L : List Ent} {ids : List Int} {texts : List (List UInt8)} (h : Paired L ids texts) {i : Int} {t : List UInt8} (ht : TAt L i t) : Paired L (ids ++ [i]) (texts ++ [t]) := by
  refine ⟨by simp [h.len], fun k j u h1 h2 => ?_⟩
  by_cases hk : k < ids.length
  · rw [List.getElem?_append_left hk] at h1
    rw [List.getElem?_append_left (by rw [← h.len]; exact hk)] at h2
    exact h.at_ k j u h1 h2
  · rw [List.getElem?_append_right (by omega)] at h1
    rw [List.getElem?_append_right (by rw [← h.len]; omega), ← h.len] at h2
    have h0 : k - ids.length = 0 := by
      have := (List.getElem?_eq_some_iff.1 h1).1
      simpa using this
    rw [h0] at h1 h2
    simp at h1 h2
    rw [← h1, ← h2]
    exact ht
theorem Paired.run {L : List Ent} {ids : List Int} {texts : List (List UInt8)} (h : Paired L ids texts) (f m : Int) : TAts L (runP ids ids.length f m) (runP texts ids.length f m) := by
  refine tats_of _ _ ?_ ?_
  · unfold runP
    simp [h.len]
  · intro k i t h1 h2
    unfold runP at h1 h2
    rw [List.getElem?_take] at h1 h2
    split at h1
    · rename_i hk
      rw [if_pos hk, List.getElem?_drop] at h2
      rw [List.getElem?_drop] at h1
      exact h.at_ _ i t h1 h2
    · cases h1

theorem step_same (hx : ExpSame) {L : List Ent} (hG : Good L) (hlen : L.length < 1073741824) {ids : List Int} {texts : List (List UInt8)} (hp : Paired L ids texts) (x : MakeR) {m : Int × List Ent} (hm : IdTo L ids texts x m) : Same L m (mtextP ids texts x) := by
  unfold IdTo at hm
  unfold mtextP
  have pa := hp.pick x.a
  have pb := hp.pick x.b
  have pc := hp.pick x.c
  by_cases h1 : x.kind = 1
  · rw [if_pos h1] at hm ⊢; rw [hm]; exact data_same hG hlen _
  rw [if_neg h1] at hm ⊢
  by_cases h2 : x.kind = 2
  · rw [if_pos h2] at hm ⊢; rw [hm]; exact nonce_same hG hlen _ _
  rw [if_neg h2] at hm ⊢
  by_cases h3 : x.kind = 3
  · rw [if_pos h3] at hm ⊢; rw [hm]; exact key_same hG hlen _
  rw [if_neg h3] at hm ⊢
  by_cases h4 : x.kind = 4
  · rw [if_pos h4] at hm ⊢; rw [hm]; exact pub_same hG hlen pa
  rw [if_neg h4] at hm ⊢
  by_cases h5 : x.kind = 5
  · rw [if_pos h5] at hm ⊢
    by_cases ha : x.a < 0
    · rw [if_pos ha] at hm ⊢; rw [hm]; exact base_same hG hlen _
    · rw [if_neg ha] at hm ⊢; exact hx L _ _ _ _ m hG hlen pa pb hm
  rw [if_neg h5] at hm ⊢
  by_cases h6 : x.kind = 6
  · rw [if_pos h6] at hm ⊢; rw [hm]; exact sign_same hG hlen _ pa pb
  rw [if_neg h6] at hm ⊢
  by_cases h7 : x.kind = 7
  · rw [if_pos h7] at hm ⊢; rw [hm]; exact hash_same hG hlen pa
  rw [if_neg h7] at hm ⊢
  by_cases h8 : x.kind = 8
  · rw [if_pos h8] at hm ⊢; rw [hm]; exact derive_same hG hlen _ pa pb pc
  rw [if_neg h8] at hm ⊢
  by_cases h9 : x.kind = 9
  · rw [if_pos h9] at hm ⊢; rw [hm]; exact seal_same hG hlen _ (by omega) pa pb
  rw [if_neg h9] at hm ⊢
  by_cases h10 : x.kind = 10
  · rw [if_pos h10] at hm ⊢; rw [hm]; exact list_same hG hlen (hp.run _ _)
  rw [if_neg h10] at hm ⊢
  rw [hm]
  exact Same.none hG
/-- What holds of all that was made. -/
structure AllMade (n : Nat) (L : List Ent) (ids : List Int) (texts : List (List UInt8)) : Prop where
  good : Good L
  few : L.length ≤ n
  pairs : Paired L ids texts
theorem MadeTo.all (hx : ExpSame) {xs : List MakeR} {L : List Ent} {ids : List Int} {texts : List (List UInt8)} (h : MadeTo [] xs L ids texts) : xs.length < 1073741824 → AllMade xs.length L ids texts := by
  induction h with
  | nil => exact fun _ => ⟨Good.nil, by simp, ⟨rfl, fun k i t h1 _ => by simp at h1⟩⟩
  | @snoc xs L ids texts x m h k ih =>
    intro hl
    simp only [List.length_append, List.length_cons, List.length_nil] at hl
    have hA := ih (by omega)
    have hfew := hA.few
    have hS := step_same hx hA.good (by omega) hA.pairs x k
    have hmore := hS.more
    refine ⟨hS.good, ?_, (hA.pairs.pre hS.good hS.pre).snoc hS.is⟩
    simp only [List.length_append, List.length_cons, List.length_nil]
    omega
theorem TAt.raisable {L : List Ent} (hG : Good L) {i : Int} {t : List UInt8} (h : TAt L i t) : Raisable t := by
  intro h5
  rcases h with ⟨_, rfl⟩ | ⟨n, _, hn, rfl⟩
  · simp [kindL] at h5
  · have he : L[n]? = some L[n] := List.getElem?_eq_getElem hn
    have hs := hG.sh n _ he
    rw [hG.enc_eq he, kind_head hs] at h5
    rw [nodeOf_enc hG he]
    generalize L[n].sh = sh at *
    cases hs with
    | share s l h1 h2 h3 h4 _ =>
      refine ⟨by simp only [nodeSh]; rw [s_len]; omega, fun a ha => ?_⟩
      obtain ⟨u, hu, rfl⟩ := List.mem_map.1 ha
      rw [nonce_nine hG (h4 u hu)]
      omega
    | _ => simp at h5
theorem Paired.mem {L : List Ent} {ids : List Int} {texts : List (List UInt8)} (h : Paired L ids texts) {t : List UInt8} (ht : t ∈ texts) : ∃ i, TAt L i t := by
  obtain ⟨k, hk, rfl⟩ := List.mem_iff_getElem.1 ht
  have hki : k < ids.length := by rw [h.len]; exact hk
  exact ⟨ids[k], h.at_ k _ _ (List.getElem?_eq_getElem hki) (List.getElem?_eq_getElem hk)⟩
theorem made_ok {l : List MakeR} (hl : l.length ≤ 1000) (k : Nat) (L : List Ent) (ids : List Int) (texts : List (List UInt8)) (hk : k ≤ l.length) (h : MadeTo [] (l.take k) L ids texts) : MadeOk l L ids texts := by
  have hlk : (l.take k).length = k := by simp; omega
  have hA := h.all exp_same (by omega)
  have hfew := hA.few
  exact ⟨by omega, fun t ht => by obtain ⟨i, hi⟩ := hA.pairs.mem ht; exact hi.short hA.good, fun t ht => by obtain ⟨i, hi⟩ := hA.pairs.mem ht; exact hi.raisable hA.good, fun x _ _ => (hA.pairs.pick x.b).nine hA.good⟩
def mostOf (l : List Int) : Int := l.foldl (fun m i => if i > m then i else m) (-1)
theorem mostOf_snoc (l : List Int) (i : Int) : mostOf (l ++ [i]) = if i > mostOf l then i else mostOf l := by simp [mostOf]
structure InOrder (L : List Ent) (ids : List Int) : Prop where
  all : ∀ k i, ids[k]? = some i → -1 ≤ i ∧ i ≤ mostOf (ids.take k) + 1
  last : (L.length : Int) = mostOf ids + 1
theorem MadeTo.order {xs : List MakeR} {L : List Ent} {ids : List Int} {texts : List (List UInt8)} (h : MadeTo [] xs L ids texts) : xs.length < 1073741824 → InOrder L ids := by
  induction h with
  | nil => exact fun _ => ⟨fun k i h => by simp at h, rfl⟩
  | @snoc xs L ids texts x m h k ih =>
    intro hl
    simp only [List.length_append, List.length_cons, List.length_nil] at hl
    have hA := h.all exp_same (by omega)
    have hO := ih (by omega)
    have hfew := hA.few
    have hS := step_same exp_same hA.good (by omega) hA.pairs x k
    have hlast := hO.last
    have hm : -1 ≤ m.1 ∧ m.1 < (m.2.length : Int) := by
      rcases hS.is with ⟨h1, _⟩ | ⟨n, h1, h2, _⟩
      · omega
      · omega
    have hnew := hS.new
    refine ⟨fun j i hj => ?_, ?_⟩
    · by_cases hjl : j < ids.length
      · rw [List.getElem?_append_left hjl] at hj
        rw [List.take_append_of_le_length (by omega)]
        exact hO.all j i hj
      · rw [List.getElem?_append_right (by omega)] at hj
        have h0 : j - ids.length = 0 := by
          have := (List.getElem?_eq_some_iff.1 hj).1
          simpa using this
        have hje : j = ids.length := by omega
        rw [h0] at hj
        simp at hj
        rw [hje, List.take_left, ← hj]
        omega
    · rw [mostOf_snoc]
      split <;> omega
end Go.Proofs.YtobhpclemmhpoaaGreatDoor

namespace Go.Proofs.YtobhpclemmhpoaaGreatDoor
open Go.RowKit

set_option maxRecDepth 100000 in
theorem Encode_any {B A : Nat} {L : List Ent} {F : Nat → Prop} {w : World} (ha : ArenaAt B A L F w) (hL : Encodable L) {n : Nat} {e : Ent} (he : L[n]? = some e) (hen : (enc L n).length ≤ 200000) :
    Calls Tryz.prog 11 #[.pointer (some ⟨A, 0, none⟩), .int .i64 n] w fun r w' => r = .returned (.string (bs (enc L n))) ∧ Below w.heap.size w w' := by
  obtain ⟨i0, hi, hz0, hz1, hz2⟩ := info_parts info_u8
  have hok := ha.wf.ok n e he
  have hpos : 0 < (enc L n).length := by
    rw [enc_eq he hok.args, List.length_append]
    have := headL_pos e.sh (hL n e he).1 hok.kind
    omega
  have hz : e.size ≤ 131072 := ha.wf.size e (List.mem_of_getElem? he)
  have hv : ∀ W, Below w.heap.size w W → Calls Tryz.prog 19 #[.pointer (some ⟨A, 0, none⟩), .int .i64 n] W fun r w' => ∃ c0 c1 c2 c3 g, r = .returned (.tuple #[.agg #[.int .i64 c0, .int .i64 c1, .int .i64 c2, .string c3, .slice (some ⟨g, 0, none⟩) e.sh.args.length e.sh.args.length], .bool true]) ∧ Below W.heap.size W w' :=
    fun W hW => (View_some (ha.below hW) he).mono fun r w' ⟨g, h1, _, h3⟩ => ⟨_, _, _, _, g, h1, h3⟩
  have hsz : ∀ W, Below w.heap.size w W → Calls Tryz.prog 23 #[.pointer (some ⟨A, 0, none⟩), .int .i64 n] W fun r w' => r = .returned (.int .i64 e.size) ∧ W = w' := fun W hW => by
    have h := Size_any (ha.below hW) n
    have e1 : sizeAt L n = e.size := by simp [sizeAt, at_nat, he]
    rw [e1] at h
    exact h
  have hF := ha.lt
  have HA := Lib.hid fun (W : World) (hW : Below w.heap.size w W) => ha.below hW
  obtain ⟨sE, zE⟩ := e
  simp only at hz hv hsz
  clear hok ha
  have hb0 : Below w.heap.size w (w.alloc (.cells #[.pointer (some ⟨A, 0, none⟩)] 34)) := (Below.refl _ _).alloc (Nat.le_refl _) _
  go_enter Tryz.func11, Tryz.ntmps11
  go_wp2_with (first
    | (go_at_call 19
       refine (hv _ hb0).mono ?_
       rintro r w1 ⟨c0, c1, c2, c3, g, rfl, hb1⟩
       have hb2 : Below w.heap.size w (w1.alloc (.cells #[.int .i64 c0, .int .i64 c1, .int .i64 c2, .string c3, .slice (some ⟨g, 0, none⟩) sE.args.length sE.args.length] 60)) := (hb0.trans (hb1.mono (by simp))).alloc (Nat.le_trans hb0.size hb1.size) _
       have hH1 : Holds w1 w.heap.size 34 #[.pointer (some ⟨A, 0, none⟩)] := Holds.moves (S := nobody) (Holds.new w 34 _) (Moves.ofBelow hb1) fun h => h
       have hH2 : Holds (w1.alloc (.cells #[.int .i64 c0, .int .i64 c1, .int .i64 c2, .string c3, .slice (some ⟨g, 0, none⟩) sE.args.length sE.args.length] 60)) w.heap.size 34 #[.pointer (some ⟨A, 0, none⟩)] := Holds.moves (S := nobody) hH1 ((Moves.refl nobody w1).alloc _) fun h => h
       have hA1 := Holds.cell hH2 0)
    | (go_at_call 23
       refine (hsz _ hb2).mono ?_
       rintro r w' ⟨rfl, rfl⟩)
    | (at_make; refine wpList_make_own _ rfl _ _ 71 rfl 0 5 i0 _ 1 Tryz.underlying71 hi hz0 hz1 _ _ _ zE rfl rfl (by omega) ?b1 ?b2 ?b3 ?_))
  case b1 => rw [hz2]; omega
  case b2 => unfold maxLen; omega
  case b3 => exact Nat.zero_le _
  intro w2 hown2 hgrow2
  have hb3 : Below w.heap.size w w2 := hb2.grown hgrow2 hb2.size (by simp)
  have hH3 : Holds w2 w.heap.size 34 #[.pointer (some ⟨A, 0, none⟩)] := (hgrow2.block w.heap.size hH2.lt (by simp)).trans hH2
  have hX : w.heap.size ≤ w1.heap.size + 1 := by have := hb1.size; simp at this; omega
  have hX2 : w1.heap.size + 1 < w2.heap.size := by
    rcases hown2.2 with ⟨h, _⟩ | ⟨g0, cap, cur, h, _, h3, _⟩
    · cases h
    · injection h with h1 h2 h4
      injection h1 with h1
      injection h1 with h1
      rw [← h1] at h3
      exact (Array.getElem?_eq_some_iff.1 h3).1
  generalize w1.heap.size + 1 = X at *
  have hownX : w2.ownsRow X 5 1 (.slice (some ⟨X, 0, none⟩) 0 zE) 0 [] := by
    refine ⟨hown2.1, ?_⟩
    rcases hown2.2 with h | ⟨g0, cap, cur, h, _, h3⟩
    · exact .inl h
    · refine .inr ⟨g0, cap, cur, h, ?_, h3⟩
      injection h with h1 h2 h4
      injection h1 with h1
      injection h1 with h1
      omega
  have hE : ∀ W O, Below w2.heap.size w2 W → X ≤ O → Holds W O 71 #[.slice (some ⟨X, 0, none⟩) 0 zE] → Holds W (O + 1) 73 #[putV w.heap.size O (O + 1)] → Calls Tryz.prog 24 #[.int .i64 n, .pointer (some ⟨w.heap.size, 0, none⟩), .pointer (some ⟨O, 0, none⟩), .pointer (some ⟨O + 1, 0, none⟩)] W fun r w' => r = .returned (.tuple #[]) ∧
      ∃ v', Holds w' O 71 #[v'] ∧ w'.ownsRow X 5 1 v' (0 + (enc L n).length) ([] ++ byteCells (enc L n)) ∧ BM X O W w' := fun W O hW hXO hO hP =>
    enc1_any hL (fun k hk => Nat.lt_of_lt_of_le (hF k hk).2 hX) hXO n _ W _ 0 [] ((HA.out w2 hb3).below hW) (hH3.moves (Moves.ofBelow (S := nobody) hW) fun h => h) hP hO (owns_moves hownX (Moves.ofBelow (S := nobody) hW) fun _ _ h => h) (Nat.le_trans (Nat.le_of_lt hX2) hW.size) he (by omega)
  have hHW : w.heap.size ≤ w2.heap.size := hb3.size
  have HB := Lib.hid hb3
  clear hb3 hb2 hb1 hb0 hv hsz hgrow2 hown2 hownX hH1 hH2 hH3 hA1 he hi hz0 hz1 hz2 hF hL HA
  generalize hHH : w.heap.size = H at *
  have HH := Lib.hid hHH
  clear hHH
  go_wp2_with (
    go_at_call 24
    refine Calls.mono (hE _ _ ?q1 ?q4 ?q2 ?q5) ?q3
    case q1 => go_loud (exact ((Below.refl _ _).alloc (Nat.le_refl _) _).alloc (by simp) _)
    case q2 => go_loud (exact Holds.moves (S := nobody) (Holds.new w2 _ _) ((Moves.refl nobody _).alloc _) fun h => h)
    case q4 => exact Nat.le_of_lt hX2
    case q5 => go_loud (exact (by have := Holds.new (w2.alloc (.cells #[.slice (some ⟨X, 0, none⟩) 0 zE] 71)) 73 #[putV H w2.heap.size (w2.heap.size + 1)]; rw [World.size_alloc] at this; exact this))
    rintro r w6 ⟨rfl, v', hO6, hown6, hm6⟩
    rw [List.nil_append, Nat.zero_add] at hown6
    obtain ⟨g6, cap6, rfl⟩ : ∃ g6 cap6, v' = .slice (some ⟨g6, 0, none⟩) (enc L n).length cap6 := by
      rcases hown6.2 with ⟨_, h⟩ | ⟨g6, cap6, _, h, _⟩
      · omega
      · exact ⟨g6, cap6, h⟩
    have hcv := run_string_own hown6
    have c6 := Holds.cell hO6 0)
  go_ret
  refine ⟨rfl, ?_⟩
  rw [HH.out]
  refine HB.out.trans ((Below.mono (((Below.refl w2.heap.size w2).alloc (Nat.le_refl _) _).alloc (by simp) _) hHW).trans (Moves.below hm6 (by simp; omega) ?_))
  rintro k (rfl | ⟨h, _⟩)
  · exact hHW
  · exact Nat.le_trans hX h
end Go.Proofs.YtobhpclemmhpoaaGreatDoor

namespace Go.Proofs.YtobhpclemmhpoaaGreatDoor
open Go.RowKit

set_option maxRecDepth 100000 in
theorem View_has {p : Value} {i : Int} {w : World} (hh : ∀ W, Below w.heap.size w W → Calls Tryz.prog 39 #[p, .int .i64 i] W fun e w' => e = .returned (.bool false) ∧ W = w') :
    Calls Tryz.prog 19 #[p, .int .i64 i] w fun r w' => r = .returned (.tuple #[noNode, .bool false]) ∧ Below w.heap.size w w' := by
  have hb : Below w.heap.size w (w.alloc (.cells #[.int .i64 0, .int .i64 0, .int .i64 0, .string ⟨#[]⟩, .slice none 0 0] 60)) := (Below.refl _ _).alloc (Nat.le_refl _) _
  have hc := hh _ hb
  have hN : Holds (w.alloc (.cells #[.int .i64 0, .int .i64 0, .int .i64 0, .string ⟨#[]⟩, .slice none 0 0] 60)) w.heap.size 60 #[.int .i64 0, .int .i64 0, .int .i64 0, .string ⟨#[]⟩, .slice none 0 0] := Holds.new w _ _
  go_enter Tryz.func19, Tryz.ntmps19
  go_wp2_with (go_at_call 39; refine hc.mono ?_; rintro r w' ⟨rfl, rfl⟩)
  refine bodyPost_ret (v := .tuple #[noNode, .bool false]) ?_ rfl ⟨rfl, hb⟩
  exact run_cell_tmp rfl _ _ w.heap.size _ _ _ rfl rfl hN Tryz.underlying60 rfl (by kernel_rfl)
theorem nView_no {B A : Nat} {L : List Ent} {F : Nat → Prop} {w : World} (ha : ArenaAt B A L F w) (i : Int) (hi : i < 0 ∨ L.length ≤ i) :
    Calls Tryz.prog 19 #[.pointer (some ⟨A, 0, none⟩), .int .i64 i] w fun r w' => r = .returned (.tuple #[noNode, .bool false]) ∧ Below w.heap.size w w' :=
  View_has fun _W hW => has_no (ha.below hW) i hi
set_option maxRecDepth 100000 in
theorem Encode_has {p : Option Addr} {i : Int} {w : World} (hv : ∀ W, Below w.heap.size w W → Calls Tryz.prog 19 #[.pointer p, .int .i64 i] W fun r w' => r = .returned (.tuple #[noNode, .bool false]) ∧ Below W.heap.size W w') :
    Calls Tryz.prog 11 #[.pointer p, .int .i64 i] w fun r w' => r = .returned (.string ⟨#[]⟩) ∧ Below w.heap.size w w' := by
  have hb0 : Below w.heap.size w (w.alloc (.cells #[.pointer p] 34)) := (Below.refl _ _).alloc (Nat.le_refl _) _
  have hc := hv _ hb0
  unfold noNode at hc
  clear hv
  go_enter Tryz.func11, Tryz.ntmps11
  go_wp2_with (
    go_at_call 19
    refine hc.mono ?_
    rintro r w1 ⟨rfl, hb1⟩)
  go_ret
  exact ⟨rfl, (hb0.trans (hb1.mono hb0.size)).alloc (Nat.le_trans hb0.size hb1.size) _⟩
theorem Encode_no {B A : Nat} {L : List Ent} {F : Nat → Prop} {w : World} (ha : ArenaAt B A L F w) (i : Int) (hi : i < 0 ∨ L.length ≤ i) :
    Calls Tryz.prog 11 #[.pointer (some ⟨A, 0, none⟩), .int .i64 i] w fun r w' => r = .returned (.string ⟨#[]⟩) ∧ Below w.heap.size w w' :=
  Encode_has fun _W hW => nView_no (ha.below hW) i hi
end Go.Proofs.YtobhpclemmhpoaaGreatDoor
