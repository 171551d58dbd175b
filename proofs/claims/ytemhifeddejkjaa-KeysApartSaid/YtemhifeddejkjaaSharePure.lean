/- Shares raised step by step: the order plays no part. Nothing of the program is run here. -/
import Derived.Test.YtemhifeddejkjaaGood
namespace Go.Proofs.Ytemhifeddejkjaa
open Go.RowKit

theorem nonce_got {L : List Ent} (h : Good L) (hlen : L.length < 1073741824) {a b : Int} (ha : isNum a = true) (hb : isNum b = true) : Got L ⟨2, a.toNat, b.toNat, noStr, []⟩ (nonceM L a b) := by
  have h1 := isNum_iff.1 ha
  have h2 := isNum_iff.1 hb
  unfold nonceM
  rw [if_pos ⟨ha, hb⟩]
  exact built_got h ⟨2, a.toNat, b.toNat, noStr⟩ (by show 2 ≤ 10; omega) (by show a.toNat ≤ _; omega) (by show b.toNat ≤ _; omega) (l := []) (by simp) (by simp) (GoodSh.nonce a.toNat b.toNat (by omega) (by omega)) (by simp [ownOf, sumN, noStr, ByteArray.size]) hlen
theorem nonce_none {L : List Ent} {a b : Int} (h : ¬ (isNum a = true ∧ isNum b = true)) : nonceM L a b = (-1, L) := if_neg h
theorem base_got {L : List Ent} (h : Good L) (hlen : L.length < 1073741824) {s : ByteArray} (h1 : 1 ≤ s.size) (h2 : s.size ≤ 2100) : Got L ⟨5, 0, 0, s, []⟩ (baseM L s) := by
  unfold baseM
  rw [if_pos ⟨h1, h2⟩]
  exact built_got h ⟨5, 0, 0, s⟩ (by show 5 ≤ 10; omega) (by show 0 ≤ _; omega) (by show 0 ≤ _; omega) (l := []) (by simp) (by simp) (.share _ _ h1 h2 (by simp) (by simp) List.Pairwise.nil) (by simp [ownOf, sumN]; omega) hlen
theorem base_none {L : List Ent} {s : ByteArray} (h : ¬ (1 ≤ s.size ∧ s.size ≤ 2100)) : baseM L s = (-1, L) := if_neg h

/-- A term of kind 2 is a nonce of size 9. -/
theorem Good.nonce {L : List Ent} (h : Good L) {t : Nat} (hk : kindN L t = 2) : ∃ (e : Ent) (a b : Nat), L[t]? = some e ∧ e.sh = ⟨2, a, b, noStr, []⟩ ∧ e.size = 9 := by
  have ht := kindN_lt (L := L) (t := t) (by omega)
  have he := List.getElem?_eq_getElem ht
  have hs := h.sh t _ he
  have hz := h.size t _ he
  simp only [kindN, he, Option.map_some, Option.getD_some] at hk
  generalize L[t] = e at *
  obtain ⟨sh, z⟩ := e
  simp only at hk hs hz
  cases hs <;> simp at hk
  exact ⟨_, _, _, he, rfl, by simpa [ownOf, sumN, noStr, ByteArray.size] using hz⟩
theorem Good.sum_nonces {L : List Ent} (h : Good L) {l : List Nat} (hk : ∀ t ∈ l, kindN L t = 2) : sumN L l = 9 * l.length := by
  induction l with
  | nil => rfl
  | cons t l ih =>
    obtain ⟨e, a, b, he, _, hz⟩ := h.nonce (hk t (by simp))
    have := ih fun t ht => hk t (by simp [ht])
    simp only [sumN, List.map_cons, List.sum_cons, List.length_cons] at this ⊢
    rw [this]
    simp [sizeN, he, hz]
    omega

theorem exp_got {L : List Ent} (h : Good L) (hlen : L.length < 1073741824) {n xn : Nat} {e : Ent} {s : ByteArray} {ids : List Nat} (he : L[n]? = some e) (hs : e.sh = ⟨5, 0, 0, s, ids⟩) (hx : kindN L xn = 2) (hl : ids.length + 1 ≤ 8)
    {m : Int × List Ent} (hm : ExpTo L n xn m) : ∃ d, d.Perm (ids ++ [xn]) ∧ Sorted L d ∧ Got L ⟨5, 0, 0, s, d⟩ m := by
  have hk : kindAt L (n : Int) = 5 := by rw [kindAt_nat]; simp [kindN, he, hs]
  have hk2 : kindAt L (xn : Int) = 2 := by rw [kindAt_nat, hx]; rfl
  unfold ExpTo at hm
  rw [if_pos ⟨hk, hk2⟩] at hm
  obtain ⟨e', he', hm⟩ := hm
  rw [at_nat, he] at he'
  cases he'
  rw [hs] at hm
  simp only at hm
  rw [if_pos hl] at hm
  obtain ⟨d, hp, hsd, rfl⟩ := hm
  rw [Int.toNat_natCast] at hp
  have hg := h.sh n e he
  rw [hs] at hg
  obtain ⟨h1, h2, h3, h4⟩ : 1 ≤ s.size ∧ s.size ≤ 2100 ∧ ids.length ≤ 8 ∧ ∀ t ∈ ids, kindN L t = 2 := by
    cases hg with
    | share _ _ h1 h2 h3 h4 _ => exact ⟨h1, h2, h3, h4⟩
  have hdk : ∀ t ∈ d, kindN L t = 2 := fun t ht => by
    rcases List.mem_append.1 (hp.mem_iff.1 ht) with h5 | h5
    · exact h4 t h5
    · simp at h5; subst h5; exact hx
  have hdl : d.length = ids.length + 1 := by rw [hp.length_eq]; simp
  refine ⟨d, hp, hsd, ?_⟩
  have hsum := h.sum_nonces hdk
  exact built_got h ⟨5, 0, 0, s⟩ (by show 5 ≤ 10; omega) (by show 0 ≤ _; omega) (by show 0 ≤ _; omega) (l := d) (by omega) (fun t ht => kindN_lt (by rw [hdk t ht]; omega)) (.share _ _ h1 h2 (by omega) hdk hsd) (by rw [hsum]; show 9 + s.size + 9 * d.length ≤ 131072; omega) hlen

/-! ### the exponents of a share, and the pairs of numbers that they came from -/
def NonceOf (L : List Ent) (t : Nat) (q : Int × Int) : Prop := (isNum q.1 = true ∧ isNum q.2 = true) ∧ ∃ e, L[t]? = some e ∧ e.sh = ⟨2, q.1.toNat, q.2.toNat, noStr, []⟩
theorem NonceOf.pre {L L' : List Ent} (hp : L <+: L') {t : Nat} {q : Int × Int} (h : NonceOf L t q) : NonceOf L' t q := by
  obtain ⟨h0, e, he, hs⟩ := h
  obtain ⟨M, rfl⟩ := hp
  exact ⟨h0, e, by rw [List.getElem?_append_left (List.getElem?_eq_some_iff.1 he).1]; exact he, hs⟩
theorem NonceOf.kind {L : List Ent} {t : Nat} {q : Int × Int} (h : NonceOf L t q) : kindN L t = 2 := by
  obtain ⟨_, e, he, hs⟩ := h
  simp [kindN, he, hs]
theorem NonceOf.inj {L : List Ent} (hL : Wf L) {t u : Nat} {q : Int × Int} (h : NonceOf L t q) (h' : NonceOf L u q) : t = u := by
  obtain ⟨_, e, he, hs⟩ := h
  obtain ⟨_, e', he', hs'⟩ := h'
  have h1 := idx_of hL.apart he
  have h2 := idx_of hL.apart he'
  rw [hs] at h1
  rw [hs', h1] at h2
  exact Option.some.inj h2
theorem NonceOf.lt {L : List Ent} {t u : Nat} {q r : Int × Int} (h : NonceOf L t q) (h' : NonceOf L u r) : ltI L t u = true ↔ q.1 < r.1 ∨ (q.1 = r.1 ∧ q.2 < r.2) := by
  obtain ⟨⟨a1, a2⟩, e, he, hs⟩ := h
  obtain ⟨⟨b1, b2⟩, e', he', hs'⟩ := h'
  have a1 := isNum_iff.1 a1; have a2 := isNum_iff.1 a2; have b1 := isNum_iff.1 b1; have b2 := isNum_iff.1 b2
  obtain ⟨ht, het⟩ := List.getElem?_eq_some_iff.1 he
  obtain ⟨hu, heu⟩ := List.getElem?_eq_some_iff.1 he'
  rw [ltI_iff ht hu, het, heu, hs, hs']
  simp only
  omega

def All2 (L : List Ent) : List Nat → List (Int × Int) → Prop
  | [], [] => True
  | t :: l, q :: m => NonceOf L t q ∧ All2 L l m
  | _, _ => False
theorem All2.length {L : List Ent} : ∀ {l : List Nat} {m : List (Int × Int)}, All2 L l m → l.length = m.length
  | [], [], _ => rfl
  | _ :: _, _ :: _, h => by simp [h.2.length]
  | [], _ :: _, h => h.elim
  | _ :: _, [], h => h.elim
theorem All2.pre {L L' : List Ent} (hp : L <+: L') : ∀ {l : List Nat} {m : List (Int × Int)}, All2 L l m → All2 L' l m
  | [], [], _ => trivial
  | _ :: _, _ :: _, h => ⟨h.1.pre hp, h.2.pre hp⟩
  | [], _ :: _, h => h.elim
  | _ :: _, [], h => h.elim
theorem All2.snoc {L : List Ent} : ∀ {l : List Nat} {m : List (Int × Int)} {t : Nat} {q : Int × Int}, All2 L l m → NonceOf L t q → All2 L (l ++ [t]) (m ++ [q])
  | [], [], _, _, _, h => ⟨h, trivial⟩
  | _ :: _, _ :: _, _, _, h, h' => ⟨h.1, h.2.snoc h'⟩
  | [], _ :: _, _, _, h, _ => h.elim
  | _ :: _, [], _, _, h, _ => h.elim
/-- The terms in another order: the pairs in that order. -/
theorem All2.perm {L : List Ent} {l l' : List Nat} (hp : l.Perm l') : ∀ {m : List (Int × Int)}, All2 L l m → ∃ m', m.Perm m' ∧ All2 L l' m' := by
  induction hp with
  | nil =>
    intro m h
    cases m with
    | nil => exact ⟨[], .refl _, trivial⟩
    | cons => exact h.elim
  | cons x _ ih =>
    intro m h
    cases m with
    | nil => exact h.elim
    | cons q m =>
      obtain ⟨m', h1, h2⟩ := ih h.2
      exact ⟨q :: m', h1.cons q, h.1, h2⟩
  | swap x y l =>
    intro m h
    match m, h with
    | q :: r :: m, h => exact ⟨r :: q :: m, List.Perm.swap _ _ _, h.2.1, h.1, h.2.2⟩
    | [q], h => exact h.2.elim
    | [], h => exact h.elim
  | trans _ _ ih1 ih2 =>
    intro m h
    obtain ⟨m1, p1, h1⟩ := ih1 h
    obtain ⟨m2, p2, h2⟩ := ih2 h1
    exact ⟨m2, p1.trans p2, h2⟩

def pairLt (q r : Int × Int) : Prop := q.1 < r.1 ∨ (q.1 = r.1 ∧ q.2 < r.2)
theorem sorted_pairs {L : List Ent} : ∀ {l : List Nat} {m : List (Int × Int)}, All2 L l m → Sorted L l → m.Pairwise fun q r => ¬ pairLt r q
  | [], [], _, _ => List.Pairwise.nil
  | t :: l, q :: m, h, hs => by
    obtain ⟨s1, s2⟩ := List.pairwise_cons.1 hs
    refine List.pairwise_cons.2 ⟨fun r hr => ?_, sorted_pairs h.2 s2⟩
    have : ∀ {l : List Nat} {m : List (Int × Int)}, All2 L l m → r ∈ m → ∃ u ∈ l, NonceOf L u r := by
      intro l m
      induction l generalizing m with
      | nil => cases m <;> simp [All2]
      | cons u l ih =>
        cases m with
        | nil => simp
        | cons x m =>
          intro h hm
          rcases List.mem_cons.1 hm with rfl | hm
          · exact ⟨u, by simp, h.1⟩
          · obtain ⟨v, hv, hv2⟩ := ih h.2 hm
            exact ⟨v, by simp [hv], hv2⟩
    obtain ⟨u, hu, hur⟩ := this h.2 hr
    have hlt := s1 u hu
    intro hp
    rw [(hur.lt h.1).2 hp] at hlt
    cases hlt
  | [], _ :: _, h, _ => h.elim
  | _ :: _, [], h, _ => h.elim
/-- Two sorted lists of the same pairs are one. -/
theorem pairs_unique {m m' : List (Int × Int)} (hp : m.Perm m') (h : m.Pairwise fun q r => ¬ pairLt r q) (h' : m'.Pairwise fun q r => ¬ pairLt r q) : m = m' := by
  refine List.Perm.eq_of_pairwise (fun a b _ _ h1 h2 => ?_) h h' hp
  unfold pairLt at h1 h2
  have e1 : a.1 = b.1 := by omega
  have e2 : a.2 = b.2 := by omega
  exact Prod.ext e1 e2
theorem All2.inj {L : List Ent} (hL : Wf L) : ∀ {l l' : List Nat} {m : List (Int × Int)}, All2 L l m → All2 L l' m → l = l'
  | [], [], [], _, _ => rfl
  | t :: l, t' :: l', _ :: m, h, h' => by rw [h.1.inj hL h'.1, h.2.inj hL h'.2]
  | [], _ :: _, [], _, h => h.elim
  | [], _ :: _, _ :: _, h, _ => h.elim
  | _ :: _, _, [], h, _ => h.elim
  | _ :: _, [], _ :: _, _, h => h.elim
  | [], [], _ :: _, h, _ => h.elim

def OkP (g : ByteArray) (ps : List (Int × Int)) : Prop := (1 ≤ g.size ∧ g.size ≤ 2100) ∧ ∀ p ∈ ps, isNum p.1 = true ∧ isNum p.2 = true
/-- s is the share of the group g with the exponents ps; none, where there is no such. -/
def ShRel (L : List Ent) (g : ByteArray) (ps : List (Int × Int)) (s : Int) : Prop :=
  (OkP g ps ∧ ∃ (n : Nat) (e : Ent) (ids : List Nat) (qs : List (Int × Int)), s = n ∧ L[n]? = some e ∧ e.sh = ⟨5, 0, 0, g, ids⟩ ∧ qs.Perm ps ∧ All2 L ids qs ∧ Sorted L ids) ∨ (¬ OkP g ps ∧ s = -1)

theorem ShRel.pre {L L' : List Ent} (hp : L <+: L') {g : ByteArray} {ps : List (Int × Int)} {s : Int} (h : ShRel L g ps s) : ShRel L' g ps s := by
  rcases h with ⟨h0, n, e, ids, qs, h1, h2, h3, h4, h5, h6⟩ | h
  · refine .inl ⟨h0, n, e, ids, qs, h1, ?_, h3, h4, h5.pre hp, h6.pre hp fun t ht => ?_⟩
    · obtain ⟨M, rfl⟩ := hp
      rw [List.getElem?_append_left (List.getElem?_eq_some_iff.1 h2).1]; exact h2
    · have : ∀ {l : List Nat} {m : List (Int × Int)}, All2 L l m → t ∈ l → kindN L t = 2 := by
        intro l m
        induction l generalizing m with
        | nil => intro _ h; simp at h
        | cons u l ih =>
          cases m with
          | nil => intro h; exact h.elim
          | cons x m =>
            intro h hm
            rcases List.mem_cons.1 hm with rfl | hm
            · exact h.1.kind
            · exact ih h.2 hm
      exact kindN_lt (by rw [this h5 ht]; omega)
  · exact .inr h

theorem ShRel.base {L : List Ent} (h : Good L) (hlen : L.length < 1073741824) (g : ByteArray) : Good (baseM L g).2 ∧ L <+: (baseM L g).2 ∧ ShRel (baseM L g).2 g [] (baseM L g).1 := by
  by_cases hg : 1 ≤ g.size ∧ g.size ≤ 2100
  · have hgot := base_got h hlen hg.1 hg.2
    obtain ⟨n, e, h1, h2, h3, _⟩ := hgot.at_
    exact ⟨hgot.good, hgot.pre, .inl ⟨⟨hg, by simp⟩, n, e, [], [], h1, h2, h3, .refl _, trivial, List.Pairwise.nil⟩⟩
  · rw [base_none hg]
    exact ⟨h, List.prefix_refl _, .inr ⟨fun hh => hg hh.1, rfl⟩⟩

theorem Got.len {L : List Ent} {sh : Shp} {m : Int × List Ent} (h : Got L sh m) : m.2.length ≤ L.length + 1 := by
  obtain ⟨n, e, _, _, _, h4⟩ := h.at_
  rcases h4 with h4 | ⟨h4, _⟩ <;> rw [h4] <;> simp

theorem kindAt_neg (L : List Ent) : kindAt L (-1) = 0 := rfl

theorem ShRel.step {L : List Ent} (h : Good L) (hlen : L.length < 1073741823) {g : ByteArray} {ps : List (Int × Int)} {s : Int} (hs : ShRel L g ps s) (hps : ps.length < 8) (p : Int × Int) {m : Int × List Ent}
    (hm : ExpTo (nonceM L p.1 p.2).2 s (nonceM L p.1 p.2).1 m) : Good m.2 ∧ L <+: m.2 ∧ m.2.length ≤ L.length + 2 ∧ ShRel m.2 g (ps ++ [p]) m.1 := by
  by_cases hp : isNum p.1 = true ∧ isNum p.2 = true
  · have hn := nonce_got h (by omega) hp.1 hp.2
    have hnl := hn.len
    obtain ⟨xn, x, hx1, hx2, hx3, _⟩ := hn.at_
    rw [hx1] at hm
    have hx : NonceOf (nonceM L p.1 p.2).2 xn p := ⟨hp, x, hx2, hx3⟩
    have hs' := hs.pre hn.pre
    rcases hs' with ⟨hok, n, e, ids, qs, rfl, h2, h3, h4, h5, h6⟩ | ⟨hok, rfl⟩
    · have hil : ids.length = ps.length := by rw [h5.length, h4.length_eq]
      obtain ⟨d, hd1, hd2, hgot⟩ := exp_got hn.good (by omega) h2 h3 hx.kind (by omega) hm
      have hgl := hgot.len
      obtain ⟨n', e', k1, k2, k3, _⟩ := hgot.at_
      obtain ⟨qs', q1, q2⟩ := (h5.snoc hx).perm hd1.symm
      refine ⟨hgot.good, hn.pre.trans hgot.pre, by omega, .inl ⟨⟨hok.1, fun r hr => ?_⟩, n', e', d, qs', k1, k2, k3, ?_, q2.pre hgot.pre, ?_⟩⟩
      · rcases List.mem_append.1 hr with hr | hr
        · exact hok.2 r hr
        · simp at hr; subst hr; exact hp
      · exact q1.symm.trans (h4.append_right _)
      · refine hd2.pre hgot.pre fun t ht => ?_
        have := hgot.good.sh n' e' k2
        rw [k3] at this
        have hk : kindN (nonceM L p.1 p.2).2 t = 2 := by
          rcases List.mem_append.1 (hd1.mem_iff.1 ht) with h8 | h8
          · have hg5 := hn.good.sh n e h2
            rw [h3] at hg5
            cases hg5 with
            | share _ _ _ _ _ h4 _ => exact h4 t h8
          · simp at h8; subst h8; exact hx.kind
        exact kindN_lt (by rw [hk]; omega)
    · have hm' : m = (-1, (nonceM L p.1 p.2).2) := by
        unfold ExpTo at hm
        rw [if_neg fun hh => by rw [kindAt_neg] at hh; omega] at hm
        exact hm
      rw [hm']
      exact ⟨hn.good, hn.pre, by simp only; omega, .inr ⟨fun hh => hok ⟨hh.1, fun r hr => hh.2 r (by simp [hr])⟩, rfl⟩⟩
  · rw [nonce_none hp] at hm
    have hm' : m = (-1, L) := by
      unfold ExpTo at hm
      rw [if_neg fun hh => by have := hh.2; rw [kindAt_neg] at this; omega] at hm
      exact hm
    rw [hm']
    exact ⟨h, List.prefix_refl _, by simp only; omega, .inr ⟨fun hh => hp (hh.2 p (by simp)), rfl⟩⟩

theorem ShRel.unique {L : List Ent} (h : Good L) {g : ByteArray} {ps ps' : List (Int × Int)} {s t : Int} (hs : ShRel L g ps s) (ht : ShRel L g ps' t) (hp : ps.Perm ps') : s = t := by
  have hok : OkP g ps ↔ OkP g ps' := by
    unfold OkP
    exact and_congr_right fun _ => ⟨fun h r hr => h r (hp.mem_iff.2 hr), fun h r hr => h r (hp.mem_iff.1 hr)⟩
  rcases hs with ⟨h0, n, e, ids, qs, rfl, h2, h3, h4, h5, h6⟩ | ⟨h0, rfl⟩
  · rcases ht with ⟨_, n', e', ids', qs', rfl, k2, k3, k4, k5, k6⟩ | ⟨k0, rfl⟩
    · have e1 := pairs_unique (h4.trans (hp.trans k4.symm)) (sorted_pairs h5 h6) (sorted_pairs k5 k6)
      subst e1
      have e2 := h5.inj h.wf k5
      subst e2
      have i1 := idx_of h.wf.apart h2
      have i2 := idx_of h.wf.apart k2
      rw [h3] at i1
      rw [k3, i1] at i2
      rw [Option.some.inj i2]
    · exact absurd (hok.1 h0) k0
  · rcases ht with ⟨k0, _⟩ | ⟨_, rfl⟩
    · exact absurd (hok.2 k0) h0
    · rfl
/-- Another number of exponents, another share. -/
theorem ShRel.apart {L : List Ent} {g : ByteArray} {ps ps' : List (Int × Int)} {s t : Int} (hs : ShRel L g ps s) (ht : ShRel L g ps' t) (hl : ps.length ≠ ps'.length) (hne : s ≠ -1) : t ≠ s := by
  rcases hs with ⟨h0, n, e, ids, qs, rfl, h2, h3, h4, h5, h6⟩ | ⟨h0, rfl⟩
  · rcases ht with ⟨_, n', e', ids', qs', rfl, k2, k3, k4, k5, k6⟩ | ⟨k0, rfl⟩
    · intro he
      have : n' = n := by omega
      subst this
      rw [h2] at k2
      cases k2
      rw [h3] at k3
      have : ids = ids' := by injection k3
      subst this
      have := h5.length; have := k5.length; have := h4.length_eq; have := k4.length_eq
      omega
    · intro h; omega
  · exact absurd rfl hne
end Go.Proofs.Ytemhifeddejkjaa
