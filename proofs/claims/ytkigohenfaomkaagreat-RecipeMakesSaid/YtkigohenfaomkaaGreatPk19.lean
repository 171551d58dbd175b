/- Part 19 of what the statement wants. -/
import Derived.Test.YtkigohenfaomkaaGreatPk13
import Derived.Test.YtkigohenfaomkaaGreatPk15
import Derived.Test.YtkigohenfaomkaaGreatPk16
import Derived.Test.YtkigohenfaomkaaGreatPk17
import Derived.Test.YtkigohenfaomkaaGreatPk18
namespace Go.Proofs.YtkigohenfaomkaaGreat
open Go.RowKit

def argsAt (L : List Ent) (x : Int) : List Nat := ((at_ L x).map (·.sh.args)).getD []
def pairOpen (l : List Nat) (y : Int) : Int := match l with
  | [p, q] => if (p : Int) = y then (q : Int) else -1
  | _ => -1
def openM (L : List Ent) (x y : Int) : Int := if kindAt L x = 9 then pairOpen (argsAt L x) y else -1
def deriveO (L : List Ent) (s : List UInt8) (x y z : Int) : Int × List Ent := match s with
  | [] => (-1, L)
  | ch :: _ => deriveM L ch.toNat x y z
def sealO (L : List Ent) (x c y : Int) : Int × List Ent := if c < 0 ∨ 4294967295 < c then (-1, L) else sealM L x c.toNat y
def addM (L : List Ent) (x y : Int) : Int × List Ent := if kindAt L x = 10 then listM L ((argsAt L x).map Int.ofNat ++ [y]) else (-1, L)
def elemM (L : List Ent) (x b : Int) : Int := if kindAt L x = 10 then atZ ((argsAt L x).map Int.ofNat) b else -1
def ResTo (L : List Ent) (had : Int) (known sent rs : List Int) (o : OpR) (m : Int × List Ent) : Prop :=
  if o.kind = 0 then m = dataM L (bs o.s)
  else if o.kind = 1 then m = nonceM L 0 o.a
  else if o.kind = 2 then m = (givenZ had known o.a, L)
  else if o.kind = 3 then m = (givenZ had sent o.a, L)
  else if o.kind = 4 then m = baseM L (bs o.s)
  else if o.kind = 5 then ExpTo L (atZ rs o.a) (atZ rs o.b) m
  else if o.kind = 6 then m = pubM L (atZ rs o.a)
  else if o.kind = 7 then m = signM L (bs o.s) (atZ rs o.a) (atZ rs o.b)
  else if o.kind = 8 then m = hashM L (atZ rs o.a)
  else if o.kind = 9 then m = deriveO L o.s (atZ rs o.a) (atZ rs o.b) (atZ rs o.c)
  else if o.kind = 10 then m = sealO L (atZ rs o.a) o.c (atZ rs o.b)
  else if o.kind = 11 then m = (openM L (atZ rs o.a) (atZ rs o.b), L)
  else if o.kind = 12 then m = listM L []
  else if o.kind = 13 then m = addM L (atZ rs o.a) (atZ rs o.b)
  else if o.kind = 14 then m = (elemM L (atZ rs o.a) o.b, L)
  else m = (-1, L)
theorem ResTo.k0 {L : List Ent} {had : Int} {known sent rs : List Int} {o : OpR} {m : Int × List Ent} (h : o.kind = 0) : ResTo L had known sent rs o m ↔ (m = dataM L (bs o.s)) := by
  unfold ResTo
  rw [h, if_pos rfl]
theorem ResTo.k1 {L : List Ent} {had : Int} {known sent rs : List Int} {o : OpR} {m : Int × List Ent} (h : o.kind = 1) : ResTo L had known sent rs o m ↔ (m = nonceM L 0 o.a) := by
  unfold ResTo
  rw [h, if_neg (by decide), if_pos rfl]
theorem ResTo.k2 {L : List Ent} {had : Int} {known sent rs : List Int} {o : OpR} {m : Int × List Ent} (h : o.kind = 2) : ResTo L had known sent rs o m ↔ (m = (givenZ had known o.a, L)) := by
  unfold ResTo
  rw [h, if_neg (by decide), if_neg (by decide), if_pos rfl]
theorem ResTo.k3 {L : List Ent} {had : Int} {known sent rs : List Int} {o : OpR} {m : Int × List Ent} (h : o.kind = 3) : ResTo L had known sent rs o m ↔ (m = (givenZ had sent o.a, L)) := by
  unfold ResTo
  rw [h, if_neg (by decide), if_neg (by decide), if_neg (by decide), if_pos rfl]
theorem ResTo.k4 {L : List Ent} {had : Int} {known sent rs : List Int} {o : OpR} {m : Int × List Ent} (h : o.kind = 4) : ResTo L had known sent rs o m ↔ (m = baseM L (bs o.s)) := by
  unfold ResTo
  rw [h, if_neg (by decide), if_neg (by decide), if_neg (by decide), if_neg (by decide), if_pos rfl]
theorem ResTo.k5 {L : List Ent} {had : Int} {known sent rs : List Int} {o : OpR} {m : Int × List Ent} (h : o.kind = 5) : ResTo L had known sent rs o m ↔ (ExpTo L (atZ rs o.a) (atZ rs o.b) m) := by
  unfold ResTo
  rw [h, if_neg (by decide), if_neg (by decide), if_neg (by decide), if_neg (by decide), if_neg (by decide), if_pos rfl]
theorem ResTo.k6 {L : List Ent} {had : Int} {known sent rs : List Int} {o : OpR} {m : Int × List Ent} (h : o.kind = 6) : ResTo L had known sent rs o m ↔ (m = pubM L (atZ rs o.a)) := by
  unfold ResTo
  rw [h, if_neg (by decide), if_neg (by decide), if_neg (by decide), if_neg (by decide), if_neg (by decide), if_neg (by decide), if_pos rfl]
theorem ResTo.k7 {L : List Ent} {had : Int} {known sent rs : List Int} {o : OpR} {m : Int × List Ent} (h : o.kind = 7) : ResTo L had known sent rs o m ↔ (m = signM L (bs o.s) (atZ rs o.a) (atZ rs o.b)) := by
  unfold ResTo
  rw [h, if_neg (by decide), if_neg (by decide), if_neg (by decide), if_neg (by decide), if_neg (by decide), if_neg (by decide), if_neg (by decide), if_pos rfl]
theorem ResTo.k8 {L : List Ent} {had : Int} {known sent rs : List Int} {o : OpR} {m : Int × List Ent} (h : o.kind = 8) : ResTo L had known sent rs o m ↔ (m = hashM L (atZ rs o.a)) := by
  unfold ResTo
  rw [h, if_neg (by decide), if_neg (by decide), if_neg (by decide), if_neg (by decide), if_neg (by decide), if_neg (by decide), if_neg (by decide), if_neg (by decide), if_pos rfl]
theorem ResTo.k9 {L : List Ent} {had : Int} {known sent rs : List Int} {o : OpR} {m : Int × List Ent} (h : o.kind = 9) : ResTo L had known sent rs o m ↔ (m = deriveO L o.s (atZ rs o.a) (atZ rs o.b) (atZ rs o.c)) := by
  unfold ResTo
  rw [h, if_neg (by decide), if_neg (by decide), if_neg (by decide), if_neg (by decide), if_neg (by decide), if_neg (by decide), if_neg (by decide), if_neg (by decide), if_neg (by decide), if_pos rfl]
theorem ResTo.k10 {L : List Ent} {had : Int} {known sent rs : List Int} {o : OpR} {m : Int × List Ent} (h : o.kind = 10) : ResTo L had known sent rs o m ↔ (m = sealO L (atZ rs o.a) o.c (atZ rs o.b)) := by
  unfold ResTo
  rw [h, if_neg (by decide), if_neg (by decide), if_neg (by decide), if_neg (by decide), if_neg (by decide), if_neg (by decide), if_neg (by decide), if_neg (by decide), if_neg (by decide), if_neg (by decide), if_pos rfl]
theorem ResTo.k11 {L : List Ent} {had : Int} {known sent rs : List Int} {o : OpR} {m : Int × List Ent} (h : o.kind = 11) : ResTo L had known sent rs o m ↔ (m = (openM L (atZ rs o.a) (atZ rs o.b), L)) := by
  unfold ResTo
  rw [h, if_neg (by decide), if_neg (by decide), if_neg (by decide), if_neg (by decide), if_neg (by decide), if_neg (by decide), if_neg (by decide), if_neg (by decide), if_neg (by decide), if_neg (by decide), if_neg (by decide), if_pos rfl]
theorem ResTo.k12 {L : List Ent} {had : Int} {known sent rs : List Int} {o : OpR} {m : Int × List Ent} (h : o.kind = 12) : ResTo L had known sent rs o m ↔ (m = listM L []) := by
  unfold ResTo
  rw [h, if_neg (by decide), if_neg (by decide), if_neg (by decide), if_neg (by decide), if_neg (by decide), if_neg (by decide), if_neg (by decide), if_neg (by decide), if_neg (by decide), if_neg (by decide), if_neg (by decide), if_neg (by decide), if_pos rfl]
theorem ResTo.k13 {L : List Ent} {had : Int} {known sent rs : List Int} {o : OpR} {m : Int × List Ent} (h : o.kind = 13) : ResTo L had known sent rs o m ↔ (m = addM L (atZ rs o.a) (atZ rs o.b)) := by
  unfold ResTo
  rw [h, if_neg (by decide), if_neg (by decide), if_neg (by decide), if_neg (by decide), if_neg (by decide), if_neg (by decide), if_neg (by decide), if_neg (by decide), if_neg (by decide), if_neg (by decide), if_neg (by decide), if_neg (by decide), if_neg (by decide), if_pos rfl]
theorem ResTo.k14 {L : List Ent} {had : Int} {known sent rs : List Int} {o : OpR} {m : Int × List Ent} (h : o.kind = 14) : ResTo L had known sent rs o m ↔ (m = (elemM L (atZ rs o.a) o.b, L)) := by
  unfold ResTo
  rw [h, if_neg (by decide), if_neg (by decide), if_neg (by decide), if_neg (by decide), if_neg (by decide), if_neg (by decide), if_neg (by decide), if_neg (by decide), if_neg (by decide), if_neg (by decide), if_neg (by decide), if_neg (by decide), if_neg (by decide), if_neg (by decide), if_pos rfl]
theorem ResTo.more {L : List Ent} {had : Int} {known sent rs : List Int} {o : OpR} {m : Int × List Ent} (h : o.kind < 0 ∨ 14 < o.kind) : ResTo L had known sent rs o m ↔ (m = (-1, L)) := by
  unfold ResTo
  rw [if_neg (by omega), if_neg (by omega), if_neg (by omega), if_neg (by omega), if_neg (by omega), if_neg (by omega), if_neg (by omega), if_neg (by omega), if_neg (by omega), if_neg (by omega), if_neg (by omega), if_neg (by omega), if_neg (by omega), if_neg (by omega), if_neg (by omega)]

theorem argsAt_some {L : List Ent} {k : Nat} {e : Ent} (h : L[k]? = some e) : argsAt L (k : Int) = e.sh.args := by unfold argsAt; rw [at_nat, h]; rfl
theorem Left.same {B A : Nat} {L : List Ent} {F : Nat → Prop} {w w' : World} (ha : ArenaAt B A L F w) (hb : Below w.heap.size w w') : Left B A L F w w' := Left.refl ha hb
theorem kind9_args {L : List Ent} (hG : Good L) {k : Nat} {e : Ent} (h : L[k]? = some e) (hk : e.sh.kind = 9) : ∃ p q, e.sh.args = [p, q] := by
  have hs := hG.sh k e h
  obtain ⟨sh, z⟩ := e
  simp only at hs hk ⊢
  cases hs <;> first | exact ⟨_, _, rfl⟩ | (simp at hk)
theorem kind10_args {L : List Ent} (hG : Good L) {k : Nat} {e : Ent} (h : L[k]? = some e) (hk : e.sh.kind = 10) : e.sh.args.length ≤ 32 := by
  have hs := hG.sh k e h
  obtain ⟨sh, z⟩ := e
  simp only at hs hk ⊢
  cases hs <;> first | assumption | (simp at hk)

set_option maxHeartbeats 1000000 in
theorem cResult_any {B A E : Nat} {L : List Ent} {F : Nat → Prop} {had : Int} {known sent rs : List Int} {w : World} (ha : ArenaAt B A L F w) (hG : Good L) (hlen : L.length < 1073741824) (he : EvOf F E A had known sent rs w) (o : OpR) (hs : o.s.length ≤ 1000000) :
    Calls Tryz.prog 21 #[.pointer (some ⟨E, 0, none⟩), o.value] w fun r w' => ∃ m, r = .returned (.int .i64 m.1) ∧ ResTo L had known sent rs o m ∧ Left B A m.2 F w w' := by
  have hsz : (bs o.s).size ≤ 1000000 := by rw [bs_size]; exact hs
  have hFw : ∀ i, F i → i < w.heap.size := fun i hi => (ha.lt i hi).2
  obtain ⟨K, a, b, c, s⟩ := o
  simp only at hs hsz
  unfold OpR.value OpR.cells
  simp only
  by_cases k0 : K = 0
  · subst k0
    exact (cResult_data ha hlen he a b c (bs s) hsz).mono fun r w' ⟨m, h1, h2, h3⟩ => ⟨m, h1, (ResTo.k0 rfl).2 h2, h3⟩
  by_cases k1 : K = 1
  · subst k1
    exact (cResult_nonce ha hlen he a b c (bs s) hsz).mono fun r w' ⟨m, h1, h2, h3⟩ => ⟨m, h1, (ResTo.k1 rfl).2 h2, h3⟩
  by_cases k2 : K = 2
  · subst k2
    exact (cResult_know he a b c (bs s)).mono fun r w' ⟨h1, h2⟩ => ⟨(givenZ had known a, L), h1, (ResTo.k2 rfl).2 rfl, Left.refl ha h2⟩
  by_cases k3 : K = 3
  · subst k3
    exact (cResult_sent he a b c (bs s)).mono fun r w' ⟨h1, h2⟩ => ⟨(givenZ had sent a, L), h1, (ResTo.k3 rfl).2 rfl, Left.refl ha h2⟩
  by_cases k4 : K = 4
  · subst k4
    exact (cResult_base ha hlen he a b c (bs s) hsz).mono fun r w' ⟨m, h1, h2, h3⟩ => ⟨m, h1, (ResTo.k4 rfl).2 h2, h3⟩
  by_cases k5 : K = 5
  · subst k5
    exact (cResult_exp ha hlen he a b c (bs s) hsz).mono fun r w' ⟨m, h1, h2, h3⟩ => ⟨m, h1, (ResTo.k5 rfl).2 h2, h3⟩
  by_cases k6 : K = 6
  · subst k6
    exact (cResult_pub ha hlen he a b c (bs s) hsz).mono fun r w' ⟨m, h1, h2, h3⟩ => ⟨m, h1, (ResTo.k6 rfl).2 h2, h3⟩
  by_cases k7 : K = 7
  · subst k7
    exact (cResult_sign ha hlen he a b c (bs s) hsz).mono fun r w' ⟨m, h1, h2, h3⟩ => ⟨m, h1, (ResTo.k7 rfl).2 h2, h3⟩
  by_cases k8 : K = 8
  · subst k8
    exact (cResult_hash ha hlen he a b c (bs s) hsz).mono fun r w' ⟨m, h1, h2, h3⟩ => ⟨m, h1, (ResTo.k8 rfl).2 h2, h3⟩
  by_cases k9 : K = 9
  · subst k9
    refine (cResult_9 (P := fun r W w' => ∃ m, r = .returned (.int .i64 m.1) ∧ ResTo L had known sent rs ⟨9, a, b, c, s⟩ m ∧ Left B A m.2 F W w') a b c (bs s) (fun W hb => ?_)).mono fun r w' ⟨W, hb, m, h1, h2, h3⟩ => ⟨m, h1, h2, Left.after (Moves.ofBelow hb) h3⟩
    cases s with
    | nil => exact (cDerived_no 9 a b c).mono fun r w' ⟨h1, h2⟩ => ⟨⟨_, h1⟩, (-1, L), h1, (ResTo.k9 rfl).2 rfl, Left.refl (ha.below hb) h2⟩
    | cons ch r0 =>
      have hidx : ∀ W, (Instr.index 9 (.string (bs (ch :: r0))) (.int .i64 0)).run Tryz.prog W = .ok (.int .u8 (ch.toNat : Int)) W := fun W => index_bs (ch :: r0) 0 (by simp) W
      have hq : (bs (ch :: r0)).toList.isEmpty = false := by rw [ByteArray.toList_eq]; rfl
      exact (cDerived_yes (ha.below hb) hlen (he.moves (Moves.ofBelow hb)) a b c (bs (ch :: r0)) hsz 9 hq ch.toNat (by have := UInt8.toNat_lt ch; omega) hidx).mono fun r w' ⟨m, h1, h2, h3⟩ => ⟨⟨_, h1⟩, m, h1, (ResTo.k9 rfl).2 h2, h3⟩
  by_cases k10 : K = 10
  · subst k10
    refine (cResult_10 (P := fun r W w' => ∃ m, r = .returned (.int .i64 m.1) ∧ ResTo L had known sent rs ⟨10, a, b, c, s⟩ m ∧ Left B A m.2 F W w') a b c (bs s) (fun W hb => ?_)).mono fun r w' ⟨W, hb, m, h1, h2, h3⟩ => ⟨m, h1, h2, Left.after (Moves.ofBelow hb) h3⟩
    by_cases hc : c < 0 ∨ 4294967295 < c
    · exact (cSealed_no 10 a b c (bs s) hc).mono fun r w' ⟨h1, h2⟩ => ⟨⟨_, h1⟩, (-1, L), h1, (ResTo.k10 rfl).2 (if_pos hc).symm, Left.refl (ha.below hb) h2⟩
    · obtain ⟨n, rfl⟩ : ∃ n : Nat, c = n := ⟨c.toNat, by omega⟩
      exact (cSealed_yes (ha.below hb) hlen (he.moves (Moves.ofBelow hb)) a b (bs s) hsz 10 n (by omega)).mono fun r w' ⟨m, h1, h2, h3⟩ => ⟨⟨_, h1⟩, m, h1, (ResTo.k10 rfl).2 (h2.trans (if_neg hc).symm), h3⟩
  by_cases k11 : K = 11
  · subst k11
    refine (cResult_11 (P := fun r W w' => ∃ m, r = .returned (.int .i64 m.1) ∧ ResTo L had known sent rs ⟨11, a, b, c, s⟩ m ∧ Left B A m.2 F W w') a b c (bs s) (fun W hb => ?_)).mono fun r w' ⟨W, hb, m, h1, h2, h3⟩ => ⟨m, h1, h2, Left.after (Moves.ofBelow hb) h3⟩
    have heW := he.moves (Moves.ofBelow hb)
    have haW := ha.below hb
    have hFW : ∀ i, F i → i < W.heap.size := fun i hi => (haW.lt i hi).2
    by_cases hk : kindAt L (atZ rs a) = 9
    · obtain ⟨x, hx, hlt, hxk⟩ := kindAt_some (by rw [hk]; decide)
      have hen := List.getElem?_eq_getElem hlt
      have hk9 : L[x].sh.kind = 9 := by rw [hk] at hxk; omega
      obtain ⟨p, q, hpq⟩ := kind9_args hG hen hk9
      have hop : openM L (atZ rs a) (atZ rs b) = if (p : Int) = atZ rs b then (q : Int) else -1 := by
        unfold openM
        rw [if_pos hk, hx, argsAt_some hen, hpq]
        rfl
      by_cases hpy : (p : Int) = atZ rs b
      · rw [if_pos hpy] at hop
        exact (cOpened_yes heW hFW 11 a b c (bs s) haW hx rfl hen hk9 hpq hpy).mono fun r w' ⟨h1, h2⟩ => ⟨⟨_, h1⟩, (q, L), h1, (ResTo.k11 rfl).2 (by rw [← hop]), Left.refl haW h2⟩
      · rw [if_neg hpy] at hop
        exact (cOpened_no2 heW hFW 11 a b c (bs s) haW hx rfl hen hk9 hpq hpy).mono fun r w' ⟨h1, h2⟩ => ⟨⟨_, h1⟩, (-1, L), h1, (ResTo.k11 rfl).2 (by rw [← hop]), Left.refl haW h2⟩
    · have hop : openM L (atZ rs a) (atZ rs b) = -1 := if_neg hk
      exact (cOpened_no1 heW hFW 11 a b c (bs s) rfl rfl (view_other haW (atZ rs a)) hk).mono fun r w' ⟨h1, h2⟩ => ⟨⟨_, h1⟩, (-1, L), h1, (ResTo.k11 rfl).2 (by rw [← hop]), Left.refl haW h2⟩
  have hK : K < 0 ∨ 11 < K := by omega
  refine (cResult_more (P := fun r W w' => ∃ m, r = .returned (.int .i64 m.1) ∧ ResTo L had known sent rs ⟨K, a, b, c, s⟩ m ∧ Left B A m.2 F W w') K a b c (bs s) hK (fun W hb => ?_)).mono fun r w' ⟨W, hb, m, h1, h2, h3⟩ => ⟨m, h1, h2, Left.after (Moves.ofBelow hb) h3⟩
  have heW := he.moves (Moves.ofBelow hb)
  have haW := ha.below hb
  by_cases k12 : K = 12
  · subst k12
    exact (cListed_empty haW hlen heW a b c (bs s)).mono fun r w' ⟨h1, h2⟩ => ⟨⟨_, h1⟩, listM L [], h1, (ResTo.k12 rfl).2 rfl, h2⟩
  by_cases k13 : K = 13
  · subst k13
    by_cases hk : kindAt L (atZ rs a) = 10
    · obtain ⟨x, hx, hlt, hxk⟩ := kindAt_some (by rw [hk]; decide)
      have hen := List.getElem?_eq_getElem hlt
      have hk10 : L[x].sh.kind = 10 := by rw [hk] at hxk; omega
      have ha13 : addM L (atZ rs a) (atZ rs b) = listM L (L[x].sh.args.map Int.ofNat ++ [atZ rs b]) := by unfold addM; rw [if_pos hk, hx, argsAt_some hen]
      exact (cListed_add haW heW a b c (bs s) hlen hx hen hk10 (kind10_args hG hen hk10)).mono fun r w' ⟨h1, h2⟩ => ⟨⟨_, h1⟩, _, h1, (ResTo.k13 rfl).2 ha13.symm, h2⟩
    · exact (cListed_add_no haW heW a b c (bs s) rfl hk).mono fun r w' ⟨h1, h2⟩ => ⟨⟨_, h1⟩, (-1, L), h1, (ResTo.k13 rfl).2 (if_neg hk).symm, Left.refl haW h2⟩
  by_cases k14 : K = 14
  · subst k14
    by_cases hk : kindAt L (atZ rs a) = 10
    · obtain ⟨x, hx, hlt, hxk⟩ := kindAt_some (by rw [hk]; decide)
      have hen := List.getElem?_eq_getElem hlt
      have hk10 : L[x].sh.kind = 10 := by rw [hk] at hxk; omega
      have ha14 : elemM L (atZ rs a) b = atZ (L[x].sh.args.map Int.ofNat) b := by unfold elemM; rw [if_pos hk, hx, argsAt_some hen]
      exact (cListed_at haW heW a b c (bs s) hx hen hk10).mono fun r w' ⟨h1, h2⟩ => ⟨⟨_, h1⟩, (atZ (L[x].sh.args.map Int.ofNat) b, L), h1, (ResTo.k14 rfl).2 (congrArg (fun z => (z, L)) ha14.symm), Left.refl haW h2⟩
    · have ha14 : elemM L (atZ rs a) b = -1 := if_neg hk
      exact (cListed_at_no haW heW a b c (bs s) rfl hk).mono fun r w' ⟨h1, h2⟩ => ⟨⟨_, h1⟩, (-1, L), h1, (ResTo.k14 rfl).2 (by rw [← ha14]), Left.refl haW h2⟩
  exact (cListed_other haW heW K a b c (bs s) k12 k13 k14).mono fun r w' ⟨h1, h2⟩ => ⟨⟨_, h1⟩, (-1, L), h1, (ResTo.more (by simp only; omega)).2 rfl, Left.refl haW h2⟩
end Go.Proofs.YtkigohenfaomkaaGreat
