/- Part 10 of what the statement wants. -/
import Derived.Test.YtobhpclemmhpoaaGreatDoorPk06
import Derived.Test.YtobhpclemmhpoaaGreatDoorPk07
import Derived.Test.YtobhpclemmhpoaaGreatDoorPk09
namespace Go.Proofs.YtobhpclemmhpoaaGreatDoor
open Go.RowKit

def insL (x : List UInt8) : List (List UInt8) → List (List UInt8)
  | [] => [x]
  | y :: r => if lessL x y = true then x :: y :: r else y :: insL x r
abbrev nodeOf (s : List UInt8) : RNode := (parseN (s.length + 1) s 0).1
def refExpL (s x : List UInt8) : List UInt8 := if kindL s = 5 ∧ kindL x = 2 ∧ (nodeOf s).args.length < 8 then refShareL (nodeOf s).s (insL x (nodeOf s).args) else []

structure InsSt (x : List UInt8) (l : List (List UInt8)) (i : Nat) (b : Bool) (D : List (List UInt8)) : Prop where
  le : i ≤ l.length
  no : b = false → D = l.take i ∧ insL x l = l.take i ++ insL x (l.drop i)
  yes : b = true → insL x l = D ++ l.drop i
  few : D.length ≤ i + 1
theorem InsSt.start (x : List UInt8) (l : List (List UInt8)) : InsSt x l 0 false [] := ⟨Nat.zero_le _, fun _ => ⟨rfl, by simp⟩, fun e => (by cases e), by simp⟩
theorem InsSt.pass {x : List UInt8} {l : List (List UInt8)} {i : Nat} {D : List (List UInt8)} (h : InsSt x l i true D) (hi : i < l.length) : InsSt x l (i + 1) true (D ++ [l[i]]) :=
  ⟨by omega, fun e => (by cases e), fun _ => by rw [h.yes rfl, List.drop_eq_getElem_cons hi]; simp, by have := h.few; simp; omega⟩
theorem InsSt.before {x : List UInt8} {l : List (List UInt8)} {i : Nat} {D : List (List UInt8)} (h : InsSt x l i false D) (hi : i < l.length) (hl : lessL x l[i] = true) : InsSt x l (i + 1) true (D ++ [x] ++ [l[i]]) := by
  obtain ⟨h1, h2⟩ := h.no rfl
  refine ⟨by omega, fun e => (by cases e), fun _ => ?_, ?_⟩
  · rw [h2, List.drop_eq_getElem_cons hi, insL, if_pos hl, h1]; simp
  · have : D.length = i := by rw [h1, List.length_take]; omega
    simp; omega
theorem InsSt.behind {x : List UInt8} {l : List (List UInt8)} {i : Nat} {D : List (List UInt8)} (h : InsSt x l i false D) (hi : i < l.length) (hl : lessL x l[i] = false) : InsSt x l (i + 1) false (D ++ [l[i]]) := by
  obtain ⟨h1, h2⟩ := h.no rfl
  refine ⟨by omega, fun _ => ⟨?_, ?_⟩, fun e => (by cases e), ?_⟩
  · rw [h1, List.take_succ_eq_append_getElem hi]
  · rw [h2, List.drop_eq_getElem_cons hi, insL, if_neg (by rw [hl]; simp), List.take_succ_eq_append_getElem hi, List.append_assoc]; rfl
  · have := h.few
    simp; omega
theorem InsSt.last {x : List UInt8} {l : List (List UInt8)} {D : List (List UInt8)} (h : InsSt x l l.length false D) : D ++ [x] = insL x l := by
  obtain ⟨h1, h2⟩ := h.no rfl
  rw [h2, h1]
  simp [insL]
theorem InsSt.end {x : List UInt8} {l : List (List UInt8)} {D : List (List UInt8)} (h : InsSt x l l.length true D) : D = insL x l := by
  rw [h.yes rfl]; simp
theorem insL_mem {x a : List UInt8} : ∀ {l : List (List UInt8)}, a ∈ insL x l → a = x ∨ a ∈ l
  | [], h => by simp [insL] at h; exact .inl h
  | y :: r, h => by
    unfold insL at h
    split at h
    · simpa using h
    · rcases List.mem_cons.1 h with h | h
      · exact .inr (by simp [h])
      · rcases insL_mem h with h | h
        · exact .inl h
        · exact .inr (by simp [h])
theorem insL_length (x : List UInt8) : ∀ l : List (List UInt8), (insL x l).length = l.length + 1
  | [] => rfl
  | y :: r => by
    unfold insL
    split
    · simp
    · simp [insL_length x r]
end Go.Proofs.YtobhpclemmhpoaaGreatDoor

namespace Go.Proofs.YtobhpclemmhpoaaGreatDoor
open Go.RowKit

def kindN (L : List Ent) (t : Nat) : Nat := (L[t]?.map (·.sh.kind)).getD 0
theorem kindAt_nat (L : List Ent) (t : Nat) : kindAt L (t : Int) = (kindN L t : Int) := by
  unfold kindAt kindN
  rw [at_nat]
  cases L[t]? <;> rfl
theorem kindN_pre {L L' : List Ent} {t : Nat} (h : L <+: L') (ht : t < L.length) : kindN L' t = kindN L t := by
  obtain ⟨M, rfl⟩ := h
  simp [kindN, List.getElem?_append_left ht]
theorem kindN_lt {L : List Ent} {t : Nat} (h : kindN L t ≠ 0) : t < L.length := by
  rcases Nat.lt_or_ge t L.length with h1 | h1
  · exact h1
  · simp [kindN, List.getElem?_eq_none h1] at h
def sizeN (L : List Ent) (t : Nat) : Nat := (L[t]?.map (·.size)).getD 0
theorem sizeN_pre {L L' : List Ent} {t : Nat} (h : L <+: L') (ht : t < L.length) : sizeN L' t = sizeN L t := by
  obtain ⟨M, rfl⟩ := h
  simp [sizeN, List.getElem?_append_left ht]
def sumN (L : List Ent) (l : List Nat) : Nat := (l.map (sizeN L)).sum
theorem sumN_pre {L L' : List Ent} (h : L <+: L') {l : List Nat} (hl : ∀ t ∈ l, t < L.length) : sumN L' l = sumN L l := by
  unfold sumN
  rw [List.map_congr_left fun t ht => sizeN_pre h (hl t ht)]
theorem sizes_ofNat (L : List Ent) (l : List Nat) : sizes L (l.map Int.ofNat) = sumN L l := by
  unfold sizes sumN
  rw [List.map_map]
  congr 1
  refine List.map_congr_left fun t _ => ?_
  simp only [Function.comp, Int.ofNat_eq_natCast]
  unfold sizeAt sizeN
  rw [at_nat]
  cases L[t]? <;> simp

theorem ltI_pre {L L' : List Ent} (h : L <+: L') {i j : Nat} (hi : i < L.length) (hj : j < L.length) : ltI L' i j = ltI L i j := by
  obtain ⟨M, rfl⟩ := h
  simp [ltI, List.getElem?_append_left hi, List.getElem?_append_left hj]
theorem Sorted.pre {L L' : List Ent} (h : L <+: L') {d : List Nat} (hs : Sorted L d) (hd : ∀ t ∈ d, t < L.length) : Sorted L' d :=
  List.Pairwise.imp_of_mem (fun {a b} ha hb hab => by rw [ltI_pre h (hd b hb) (hd a ha)]; exact hab) hs

/-- The shapes that the constructors make. -/
inductive GoodSh (L : List Ent) : Shp → Prop
  | data (s : ByteArray) : GoodSh L ⟨1, 0, 0, s, []⟩
  | nonce (a b : Nat) : a ≤ 2147483647 → b ≤ 2147483647 → GoodSh L ⟨2, a, b, noStr, []⟩
  | key (a : Nat) : a ≤ 2147483647 → GoodSh L ⟨3, a, 0, noStr, []⟩
  | pub (k : Nat) : kindN L k = 3 → GoodSh L ⟨4, 0, 0, noStr, [k]⟩
  | share (s : ByteArray) (l : List Nat) : 1 ≤ s.size → s.size ≤ 2100 → l.length ≤ 8 → (∀ t ∈ l, kindN L t = 2) → Sorted L l → GoodSh L ⟨5, 0, 0, s, l⟩
  | sig (s : ByteArray) (k t : Nat) : 1 ≤ s.size → s.size ≤ 64 → kindN L k = 3 → t < L.length → GoodSh L ⟨6, 0, 0, s, [k, t]⟩
  | hash (t : Nat) : t < L.length → GoodSh L ⟨7, 0, 0, noStr, [t]⟩
  | derive (c x y z : Nat) : c ≤ 255 → x < L.length → y < L.length → z < L.length → GoodSh L ⟨8, 0, c, noStr, [x, y, z]⟩
  | sealed (k n t : Nat) : n ≤ 4294967295 → k < L.length → t < L.length → GoodSh L ⟨9, 0, n, noStr, [k, t]⟩
  | list (l : List Nat) : l.length ≤ 32 → (∀ t ∈ l, t < L.length) → GoodSh L ⟨10, 0, 0, noStr, l⟩

theorem GoodSh.pre {L L' : List Ent} {sh : Shp} (h : GoodSh L sh) (hp : L <+: L') : GoodSh L' sh := by
  have hl := hp.length_le
  have hk : ∀ {t k : Nat}, kindN L t = k + 1 → kindN L' t = k + 1 := fun {t k} hk => by rw [kindN_pre hp (kindN_lt (by omega)), hk]
  cases h with
  | data s => exact .data s
  | nonce a b h1 h2 => exact .nonce a b h1 h2
  | key a h1 => exact .key a h1
  | pub k h1 => exact .pub k (hk h1)
  | share s l h1 h2 h3 h4 h5 => exact .share s l h1 h2 h3 (fun t ht => hk (h4 t ht)) (h5.pre hp fun t ht => kindN_lt (by rw [h4 t ht]; omega))
  | sig s k t h1 h2 h3 h4 => exact .sig s k t h1 h2 (hk h3) (by omega)
  | hash t h1 => exact .hash t (by omega)
  | derive c x y z h1 h2 h3 h4 => exact .derive c x y z h1 (by omega) (by omega) (by omega)
  | sealed k n t h1 h2 h3 => exact .sealed k n t h1 (by omega) (by omega)
  | list l h1 h2 => exact .list l h1 fun t ht => by have := h2 t ht; omega

def ownOf : Nat → Nat
  | 1 => 5 | 2 => 9 | 3 => 5 | 4 => 1 | 5 => 9 | 6 => 5 | 7 => 1 | 8 => 2 | 9 => 5 | 10 => 5 | _ => 0

structure Good (L : List Ent) : Prop where
  wf : Wf L
  sh : ∀ (i : Nat) (e : Ent), L[i]? = some e → GoodSh L e.sh
  size : ∀ (i : Nat) (e : Ent), L[i]? = some e → e.size = ownOf e.sh.kind + e.sh.s.size + sumN L e.sh.args

theorem Good.nil : Good [] := ⟨⟨by simp, by simp, by simp, by simp⟩, by simp, by simp⟩

theorem Good.push {L : List Ent} (h : Good L) {e : Ent} (hn : idx L e.sh = none) (hok : e.sh.Ok L.length) (hsh : GoodSh L e.sh) (hsz : e.size = ownOf e.sh.kind + e.sh.s.size + sumN L e.sh.args) (hle : e.size ≤ 131072) (hlen : L.length < 1073741824) : Good (L ++ [e]) := by
  have hp : L <+: L ++ [e] := List.prefix_append _ _
  have hcase : ∀ (i : Nat) (x : Ent), (L ++ [e])[i]? = some x → L[i]? = some x ∨ (i = L.length ∧ x = e) := by
    intro i x hx
    rw [List.getElem?_append] at hx
    split at hx
    · exact .inl hx
    · have h0 := (List.getElem?_eq_some_iff.1 hx).1
      have h0 : i - L.length = 0 := by simpa using h0
      rw [h0] at hx
      simp at hx
      exact .inr ⟨by omega, hx.symm⟩
  refine ⟨⟨fun i x hx => ?_, fun x hx => ?_, ?_, by simp; omega⟩, fun i x hx => ?_, fun i x hx => ?_⟩
  · rcases hcase i x hx with hx | ⟨rfl, rfl⟩
    · exact h.wf.ok i x hx
    · exact hok
  · rcases List.mem_append.1 hx with hx | hx
    · exact h.wf.size x hx
    · simp at hx; subst hx; exact hle
  · rw [List.map_append, List.nodup_append]
    refine ⟨h.wf.apart, by simp, ?_⟩
    intro a ha b hb
    simp at hb
    subst hb
    rintro rfl
    obtain ⟨x, hx, hxs⟩ := List.mem_map.1 ha
    exact idx_none hn x hx hxs
  · rcases hcase i x hx with hx | ⟨rfl, rfl⟩
    · exact (h.sh i x hx).pre hp
    · exact hsh.pre hp
  · rcases hcase i x hx with hx | ⟨rfl, rfl⟩
    · have hi := (List.getElem?_eq_some_iff.1 hx).1
      rw [sumN_pre hp fun t ht => by have := (h.wf.ok i x hx).args t ht; omega]
      exact h.size i x hx
    · rw [sumN_pre hp fun t ht => hok.args t ht]
      exact hsz

/-- What a successful call of build comes to. -/
structure Got (L : List Ent) (sh : Shp) (m : Int × List Ent) : Prop where
  good : Good m.2
  pre : L <+: m.2
  at_ : ∃ (n : Nat) (e : Ent), m.1 = n ∧ m.2[n]? = some e ∧ e.sh = sh ∧ (m.2 = L ∨ (m.2 = L ++ [e] ∧ n = L.length))

theorem built_got {L : List Ent} (h : Good L) (hd : Hd) (hk : hd.kind ≤ 10) (ha : hd.a ≤ 4294967295) (hb : hd.b ≤ 4294967295) {l : List Nat} (hm : l.length ≤ 65536) (hl : ∀ t ∈ l, t < L.length) (hsh : GoodSh L (hd.with l))
    (hsz : ownOf hd.kind + hd.s.size + sumN L l ≤ 131072) (hlen : L.length < 1073741824) : Got L (hd.with l) (built L hd (ownOf hd.kind) (l.map Int.ofNat)) := by
  have hin : inAll L (l.map Int.ofNat) = true := by
    simp only [inAll, List.all_map, List.all_eq_true]
    intro t ht
    have := hl t ht
    simp; omega
  have hl2 : (l.map Int.ofNat).map Int.toNat = l := by
    rw [List.map_map]
    exact (List.map_congr_left (fun t _ => by simp)).trans (List.map_id l)
  unfold built
  rw [sizes_ofNat, if_pos ⟨hin, hsz⟩, hl2]
  obtain ⟨e, he⟩ : ∃ e : Ent, e = ⟨hd.with l, ownOf hd.kind + hd.s.size + sumN L l⟩ := ⟨_, rfl⟩
  rw [← he]
  have hok : (hd.with l).Ok L.length := ⟨hk, ha, hb, by show hd.s.size ≤ 131072; omega, hl, hm⟩
  unfold found
  cases hx : idx L e.sh with
  | some i =>
    obtain ⟨x, hx1, hx2⟩ := idx_some hx
    exact ⟨h, List.prefix_refl _, i, x, rfl, hx1, by rw [hx2, he], .inl rfl⟩
  | none =>
    refine ⟨h.push hx (by rw [he]; exact hok) (by rw [he]; exact hsh) (by rw [he]; rfl) (by rw [he]; exact hsz) hlen, List.prefix_append _ _, L.length, e, rfl, by simp, by rw [he], .inr ⟨rfl, rfl⟩⟩
end Go.Proofs.YtobhpclemmhpoaaGreatDoor

namespace Go.Proofs.YtobhpclemmhpoaaGreatDoor
open Go.RowKit

theorem nonce_got {L : List Ent} (h : Good L) (hlen : L.length < 1073741824) {a b : Int} (ha : isNum a = true) (hb : isNum b = true) : Got L ⟨2, a.toNat, b.toNat, noStr, []⟩ (nonceM L a b) := by
  have h1 := isNum_iff.1 ha
  have h2 := isNum_iff.1 hb
  unfold nonceM
  rw [if_pos ⟨ha, hb⟩]
  exact built_got h ⟨2, a.toNat, b.toNat, noStr⟩ (by show 2 ≤ 10; omega) (by show a.toNat ≤ _; omega) (by show b.toNat ≤ _; omega) (l := []) (by simp) (by simp) (GoodSh.nonce a.toNat b.toNat (by omega) (by omega)) (by simp [ownOf, sumN, noStr, ByteArray.size]) hlen
theorem nonce_none {L : List Ent} {a b : Int} (h : ¬ (isNum a = true ∧ isNum b = true)) : nonceM L a b = (-1, L) := if_neg h
theorem base_got {L : List Ent} (h : Good L) (hlen : L.length < 1073741824) {s : ByteArray} (h1 : 1 ≤ s.size) (h2 : s.size ≤ 2100) : Got L ⟨5, 0, 0, s, []⟩ (baseM L s) := by
  unfold baseM
  rw [if_pos ⟨h1, h2⟩]
  exact built_got h ⟨5, 0, 0, s⟩ (by show 5 ≤ 10; omega) (by show 0 ≤ _; omega) (by show 0 ≤ _; omega) (l := []) (by simp) (by simp) (.share _ _ h1 h2 (by simp) (by simp) List.Pairwise.nil) (by simp [ownOf, sumN]; omega) hlen
theorem base_none {L : List Ent} {s : ByteArray} (h : ¬ (1 ≤ s.size ∧ s.size ≤ 2100)) : baseM L s = (-1, L) := if_neg h

/-- A term of kind 2 is a nonce of size 9. -/
theorem Good.nonce {L : List Ent} (h : Good L) {t : Nat} (hk : kindN L t = 2) : ∃ (e : Ent) (a b : Nat), L[t]? = some e ∧ e.sh = ⟨2, a, b, noStr, []⟩ ∧ e.size = 9 := by
  have ht := kindN_lt (L := L) (t := t) (by omega)
  have he := List.getElem?_eq_getElem ht
  have hs := h.sh t _ he
  have hz := h.size t _ he
  simp only [kindN, he, Option.map_some, Option.getD_some] at hk
  generalize L[t] = e at *
  obtain ⟨sh, z⟩ := e
  simp only at hk hs hz
  cases hs <;> simp at hk
  exact ⟨_, _, _, he, rfl, by simpa [ownOf, sumN, noStr, ByteArray.size] using hz⟩
theorem Good.sum_nonces {L : List Ent} (h : Good L) {l : List Nat} (hk : ∀ t ∈ l, kindN L t = 2) : sumN L l = 9 * l.length := by
  induction l with
  | nil => rfl
  | cons t l ih =>
    obtain ⟨e, a, b, he, _, hz⟩ := h.nonce (hk t (by simp))
    have := ih fun t ht => hk t (by simp [ht])
    simp only [sumN, List.map_cons, List.sum_cons, List.length_cons] at this ⊢
    rw [this]
    simp [sizeN, he, hz]
    omega

theorem exp_got {L : List Ent} (h : Good L) (hlen : L.length < 1073741824) {n xn : Nat} {e : Ent} {s : ByteArray} {ids : List Nat} (he : L[n]? = some e) (hs : e.sh = ⟨5, 0, 0, s, ids⟩) (hx : kindN L xn = 2) (hl : ids.length + 1 ≤ 8)
    {m : Int × List Ent} (hm : ExpTo L n xn m) : ∃ d, d.Perm (ids ++ [xn]) ∧ Sorted L d ∧ Got L ⟨5, 0, 0, s, d⟩ m := by
  have hk : kindAt L (n : Int) = 5 := by rw [kindAt_nat]; simp [kindN, he, hs]
  have hk2 : kindAt L (xn : Int) = 2 := by rw [kindAt_nat, hx]; rfl
  unfold ExpTo at hm
  rw [if_pos ⟨hk, hk2⟩] at hm
  obtain ⟨e', he', hm⟩ := hm
  rw [at_nat, he] at he'
  cases he'
  rw [hs] at hm
  simp only at hm
  rw [if_pos hl] at hm
  obtain ⟨d, hp, hsd, rfl⟩ := hm
  rw [Int.toNat_natCast] at hp
  have hg := h.sh n e he
  rw [hs] at hg
  obtain ⟨h1, h2, h3, h4⟩ : 1 ≤ s.size ∧ s.size ≤ 2100 ∧ ids.length ≤ 8 ∧ ∀ t ∈ ids, kindN L t = 2 := by
    cases hg with
    | share _ _ h1 h2 h3 h4 _ => exact ⟨h1, h2, h3, h4⟩
  have hdk : ∀ t ∈ d, kindN L t = 2 := fun t ht => by
    rcases List.mem_append.1 (hp.mem_iff.1 ht) with h5 | h5
    · exact h4 t h5
    · simp at h5; subst h5; exact hx
  have hdl : d.length = ids.length + 1 := by rw [hp.length_eq]; simp
  refine ⟨d, hp, hsd, ?_⟩
  have hsum := h.sum_nonces hdk
  exact built_got h ⟨5, 0, 0, s⟩ (by show 5 ≤ 10; omega) (by show 0 ≤ _; omega) (by show 0 ≤ _; omega) (l := d) (by omega) (fun t ht => kindN_lt (by rw [hdk t ht]; omega)) (.share _ _ h1 h2 (by omega) hdk hsd) (by rw [hsum]; show 9 + s.size + 9 * d.length ≤ 131072; omega) hlen

/-! ### the exponents of a share, and the pairs of numbers that they came from -/
def NonceOf (L : List Ent) (t : Nat) (q : Int × Int) : Prop := (isNum q.1 = true ∧ isNum q.2 = true) ∧ ∃ e, L[t]? = some e ∧ e.sh = ⟨2, q.1.toNat, q.2.toNat, noStr, []⟩
theorem NonceOf.pre {L L' : List Ent} (hp : L <+: L') {t : Nat} {q : Int × Int} (h : NonceOf L t q) : NonceOf L' t q := by
  obtain ⟨h0, e, he, hs⟩ := h
  obtain ⟨M, rfl⟩ := hp
  exact ⟨h0, e, by rw [List.getElem?_append_left (List.getElem?_eq_some_iff.1 he).1]; exact he, hs⟩
theorem NonceOf.kind {L : List Ent} {t : Nat} {q : Int × Int} (h : NonceOf L t q) : kindN L t = 2 := by
  obtain ⟨_, e, he, hs⟩ := h
  simp [kindN, he, hs]
theorem NonceOf.inj {L : List Ent} (hL : Wf L) {t u : Nat} {q : Int × Int} (h : NonceOf L t q) (h' : NonceOf L u q) : t = u := by
  obtain ⟨_, e, he, hs⟩ := h
  obtain ⟨_, e', he', hs'⟩ := h'
  have h1 := idx_of hL.apart he
  have h2 := idx_of hL.apart he'
  rw [hs] at h1
  rw [hs', h1] at h2
  exact Option.some.inj h2
theorem NonceOf.lt {L : List Ent} {t u : Nat} {q r : Int × Int} (h : NonceOf L t q) (h' : NonceOf L u r) : ltI L t u = true ↔ q.1 < r.1 ∨ (q.1 = r.1 ∧ q.2 < r.2) := by
  obtain ⟨⟨a1, a2⟩, e, he, hs⟩ := h
  obtain ⟨⟨b1, b2⟩, e', he', hs'⟩ := h'
  have a1 := isNum_iff.1 a1; have a2 := isNum_iff.1 a2; have b1 := isNum_iff.1 b1; have b2 := isNum_iff.1 b2
  obtain ⟨ht, het⟩ := List.getElem?_eq_some_iff.1 he
  obtain ⟨hu, heu⟩ := List.getElem?_eq_some_iff.1 he'
  rw [ltI_iff ht hu, het, heu, hs, hs']
  simp only
  omega

def All2 (L : List Ent) : List Nat → List (Int × Int) → Prop
  | [], [] => True
  | t :: l, q :: m => NonceOf L t q ∧ All2 L l m
  | _, _ => False
theorem All2.length {L : List Ent} : ∀ {l : List Nat} {m : List (Int × Int)}, All2 L l m → l.length = m.length
  | [], [], _ => rfl
  | _ :: _, _ :: _, h => by simp [h.2.length]
  | [], _ :: _, h => h.elim
  | _ :: _, [], h => h.elim
theorem All2.pre {L L' : List Ent} (hp : L <+: L') : ∀ {l : List Nat} {m : List (Int × Int)}, All2 L l m → All2 L' l m
  | [], [], _ => trivial
  | _ :: _, _ :: _, h => ⟨h.1.pre hp, h.2.pre hp⟩
  | [], _ :: _, h => h.elim
  | _ :: _, [], h => h.elim
theorem All2.snoc {L : List Ent} : ∀ {l : List Nat} {m : List (Int × Int)} {t : Nat} {q : Int × Int}, All2 L l m → NonceOf L t q → All2 L (l ++ [t]) (m ++ [q])
  | [], [], _, _, _, h => ⟨h, trivial⟩
  | _ :: _, _ :: _, _, _, h, h' => ⟨h.1, h.2.snoc h'⟩
  | [], _ :: _, _, _, h, _ => h.elim
  | _ :: _, [], _, _, h, _ => h.elim
/-- The terms in another order: the pairs in that order. -/
theorem All2.perm {L : List Ent} {l l' : List Nat} (hp : l.Perm l') : ∀ {m : List (Int × Int)}, All2 L l m → ∃ m', m.Perm m' ∧ All2 L l' m' := by
  induction hp with
  | nil =>
    intro m h
    cases m with
    | nil => exact ⟨[], .refl _, trivial⟩
    | cons => exact h.elim
  | cons x _ ih =>
    intro m h
    cases m with
    | nil => exact h.elim
    | cons q m =>
      obtain ⟨m', h1, h2⟩ := ih h.2
      exact ⟨q :: m', h1.cons q, h.1, h2⟩
  | swap x y l =>
    intro m h
    match m, h with
    | q :: r :: m, h => exact ⟨r :: q :: m, List.Perm.swap _ _ _, h.2.1, h.1, h.2.2⟩
    | [q], h => exact h.2.elim
    | [], h => exact h.elim
  | trans _ _ ih1 ih2 =>
    intro m h
    obtain ⟨m1, p1, h1⟩ := ih1 h
    obtain ⟨m2, p2, h2⟩ := ih2 h1
    exact ⟨m2, p1.trans p2, h2⟩

def pairLt (q r : Int × Int) : Prop := q.1 < r.1 ∨ (q.1 = r.1 ∧ q.2 < r.2)
theorem sorted_pairs {L : List Ent} : ∀ {l : List Nat} {m : List (Int × Int)}, All2 L l m → Sorted L l → m.Pairwise fun q r => ¬ pairLt r q
  | [], [], _, _ => List.Pairwise.nil
  | t :: l, q :: m, h, hs => by
    obtain ⟨s1, s2⟩ := List.pairwise_cons.1 hs
    refine List.pairwise_cons.2 ⟨fun r hr => ?_, sorted_pairs h.2 s2⟩
    have : ∀ {l : List Nat} {m : List (Int × Int)}, All2 L l m → r ∈ m → ∃ u ∈ l, NonceOf L u r := by
      intro l m
      induction l generalizing m with
      | nil => cases m <;> simp [All2]
      | cons u l ih =>
        cases m with
        | nil => simp
        | cons x m =>
          intro h hm
          rcases List.mem_cons.1 hm with rfl | hm
          · exact ⟨u, by simp, h.1⟩
          · obtain ⟨v, hv, hv2⟩ := ih h.2 hm
            exact ⟨v, by simp [hv], hv2⟩
    obtain ⟨u, hu, hur⟩ := this h.2 hr
    have hlt := s1 u hu
    intro hp
    rw [(hur.lt h.1).2 hp] at hlt
    cases hlt
  | [], _ :: _, h, _ => h.elim
  | _ :: _, [], h, _ => h.elim
/-- Two sorted lists of the same pairs are one. -/
theorem pairs_unique {m m' : List (Int × Int)} (hp : m.Perm m') (h : m.Pairwise fun q r => ¬ pairLt r q) (h' : m'.Pairwise fun q r => ¬ pairLt r q) : m = m' := by
  refine List.Perm.eq_of_pairwise (fun a b _ _ h1 h2 => ?_) h h' hp
  unfold pairLt at h1 h2
  have e1 : a.1 = b.1 := by omega
  have e2 : a.2 = b.2 := by omega
  exact Prod.ext e1 e2
theorem All2.inj {L : List Ent} (hL : Wf L) : ∀ {l l' : List Nat} {m : List (Int × Int)}, All2 L l m → All2 L l' m → l = l'
  | [], [], [], _, _ => rfl
  | t :: l, t' :: l', _ :: m, h, h' => by rw [h.1.inj hL h'.1, h.2.inj hL h'.2]
  | [], _ :: _, [], _, h => h.elim
  | [], _ :: _, _ :: _, h, _ => h.elim
  | _ :: _, _, [], h, _ => h.elim
  | _ :: _, [], _ :: _, _, h => h.elim
  | [], [], _ :: _, h, _ => h.elim

def OkP (g : ByteArray) (ps : List (Int × Int)) : Prop := (1 ≤ g.size ∧ g.size ≤ 2100) ∧ ∀ p ∈ ps, isNum p.1 = true ∧ isNum p.2 = true
/-- s is the share of the group g with the exponents ps; none, where there is no such. -/
def ShRel (L : List Ent) (g : ByteArray) (ps : List (Int × Int)) (s : Int) : Prop :=
  (OkP g ps ∧ ∃ (n : Nat) (e : Ent) (ids : List Nat) (qs : List (Int × Int)), s = n ∧ L[n]? = some e ∧ e.sh = ⟨5, 0, 0, g, ids⟩ ∧ qs.Perm ps ∧ All2 L ids qs ∧ Sorted L ids) ∨ (¬ OkP g ps ∧ s = -1)

theorem ShRel.pre {L L' : List Ent} (hp : L <+: L') {g : ByteArray} {ps : List (Int × Int)} {s : Int} (h : ShRel L g ps s) : ShRel L' g ps s := by
  rcases h with ⟨h0, n, e, ids, qs, h1, h2, h3, h4, h5, h6⟩ | h
  · refine .inl ⟨h0, n, e, ids, qs, h1, ?_, h3, h4, h5.pre hp, h6.pre hp fun t ht => ?_⟩
    · obtain ⟨M, rfl⟩ := hp
      rw [List.getElem?_append_left (List.getElem?_eq_some_iff.1 h2).1]; exact h2
    · have : ∀ {l : List Nat} {m : List (Int × Int)}, All2 L l m → t ∈ l → kindN L t = 2 := by
        intro l m
        induction l generalizing m with
        | nil => intro _ h; simp at h
        | cons u l ih =>
          cases m with
          | nil => intro h; exact h.elim
          | cons x m =>
            intro h hm
            rcases List.mem_cons.1 hm with rfl | hm
            · exact h.1.kind
            · exact ih h.2 hm
      exact kindN_lt (by rw [this h5 ht]; omega)
  · exact .inr h

theorem ShRel.base {L : List Ent} (h : Good L) (hlen : L.length < 1073741824) (g : ByteArray) : Good (baseM L g).2 ∧ L <+: (baseM L g).2 ∧ ShRel (baseM L g).2 g [] (baseM L g).1 := by
  by_cases hg : 1 ≤ g.size ∧ g.size ≤ 2100
  · have hgot := base_got h hlen hg.1 hg.2
    obtain ⟨n, e, h1, h2, h3, _⟩ := hgot.at_
    exact ⟨hgot.good, hgot.pre, .inl ⟨⟨hg, by simp⟩, n, e, [], [], h1, h2, h3, .refl _, trivial, List.Pairwise.nil⟩⟩
  · rw [base_none hg]
    exact ⟨h, List.prefix_refl _, .inr ⟨fun hh => hg hh.1, rfl⟩⟩

theorem Got.len {L : List Ent} {sh : Shp} {m : Int × List Ent} (h : Got L sh m) : m.2.length ≤ L.length + 1 := by
  obtain ⟨n, e, _, _, _, h4⟩ := h.at_
  rcases h4 with h4 | ⟨h4, _⟩ <;> rw [h4] <;> simp

theorem kindAt_neg (L : List Ent) : kindAt L (-1) = 0 := rfl

theorem ShRel.step {L : List Ent} (h : Good L) (hlen : L.length < 1073741823) {g : ByteArray} {ps : List (Int × Int)} {s : Int} (hs : ShRel L g ps s) (hps : ps.length < 8) (p : Int × Int) {m : Int × List Ent}
    (hm : ExpTo (nonceM L p.1 p.2).2 s (nonceM L p.1 p.2).1 m) : Good m.2 ∧ L <+: m.2 ∧ m.2.length ≤ L.length + 2 ∧ ShRel m.2 g (ps ++ [p]) m.1 := by
  by_cases hp : isNum p.1 = true ∧ isNum p.2 = true
  · have hn := nonce_got h (by omega) hp.1 hp.2
    have hnl := hn.len
    obtain ⟨xn, x, hx1, hx2, hx3, _⟩ := hn.at_
    rw [hx1] at hm
    have hx : NonceOf (nonceM L p.1 p.2).2 xn p := ⟨hp, x, hx2, hx3⟩
    have hs' := hs.pre hn.pre
    rcases hs' with ⟨hok, n, e, ids, qs, rfl, h2, h3, h4, h5, h6⟩ | ⟨hok, rfl⟩
    · have hil : ids.length = ps.length := by rw [h5.length, h4.length_eq]
      obtain ⟨d, hd1, hd2, hgot⟩ := exp_got hn.good (by omega) h2 h3 hx.kind (by omega) hm
      have hgl := hgot.len
      obtain ⟨n', e', k1, k2, k3, _⟩ := hgot.at_
      obtain ⟨qs', q1, q2⟩ := (h5.snoc hx).perm hd1.symm
      refine ⟨hgot.good, hn.pre.trans hgot.pre, by omega, .inl ⟨⟨hok.1, fun r hr => ?_⟩, n', e', d, qs', k1, k2, k3, ?_, q2.pre hgot.pre, ?_⟩⟩
      · rcases List.mem_append.1 hr with hr | hr
        · exact hok.2 r hr
        · simp at hr; subst hr; exact hp
      · exact q1.symm.trans (h4.append_right _)
      · refine hd2.pre hgot.pre fun t ht => ?_
        have := hgot.good.sh n' e' k2
        rw [k3] at this
        have hk : kindN (nonceM L p.1 p.2).2 t = 2 := by
          rcases List.mem_append.1 (hd1.mem_iff.1 ht) with h8 | h8
          · have hg5 := hn.good.sh n e h2
            rw [h3] at hg5
            cases hg5 with
            | share _ _ _ _ _ h4 _ => exact h4 t h8
          · simp at h8; subst h8; exact hx.kind
        exact kindN_lt (by rw [hk]; omega)
    · have hm' : m = (-1, (nonceM L p.1 p.2).2) := by
        unfold ExpTo at hm
        rw [if_neg fun hh => by rw [kindAt_neg] at hh; omega] at hm
        exact hm
      rw [hm']
      exact ⟨hn.good, hn.pre, by simp only; omega, .inr ⟨fun hh => hok ⟨hh.1, fun r hr => hh.2 r (by simp [hr])⟩, rfl⟩⟩
  · rw [nonce_none hp] at hm
    have hm' : m = (-1, L) := by
      unfold ExpTo at hm
      rw [if_neg fun hh => by have := hh.2; rw [kindAt_neg] at this; omega] at hm
      exact hm
    rw [hm']
    exact ⟨h, List.prefix_refl _, by simp only; omega, .inr ⟨fun hh => hp (hh.2 p (by simp)), rfl⟩⟩

/-- Another number of exponents, another share. -/
theorem ShRel.apart {L : List Ent} {g : ByteArray} {ps ps' : List (Int × Int)} {s t : Int} (hs : ShRel L g ps s) (ht : ShRel L g ps' t) (hl : ps.length ≠ ps'.length) (hne : s ≠ -1) : t ≠ s := by
  rcases hs with ⟨h0, n, e, ids, qs, rfl, h2, h3, h4, h5, h6⟩ | ⟨h0, rfl⟩
  · rcases ht with ⟨_, n', e', ids', qs', rfl, k2, k3, k4, k5, k6⟩ | ⟨k0, rfl⟩
    · intro he
      have : n' = n := by omega
      subst this
      rw [h2] at k2
      cases k2
      rw [h3] at k3
      have : ids = ids' := by injection k3
      subst this
      have := h5.length; have := k5.length; have := h4.length_eq; have := k4.length_eq
      omega
    · intro h; omega
  · exact absurd rfl hne
end Go.Proofs.YtobhpclemmhpoaaGreatDoor
