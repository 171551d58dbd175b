/- Part 14 of what the statement wants. -/
import Derived.Test.YtobhpclemmhpoaaGreatDoorPk10
import Derived.Test.YtobhpclemmhpoaaGreatDoorPk11
import Derived.Test.YtobhpclemmhpoaaGreatDoorPk13
namespace Go.Proofs.YtobhpclemmhpoaaGreatDoor
open Go.RowKit

/-- A number and the text of the same term: both none, or a term of the arena. -/
def TAt (L : List Ent) (i : Int) (t : List UInt8) : Prop := (i = -1 ∧ t = []) ∨ ∃ n : Nat, i = n ∧ n < L.length ∧ t = enc L n
theorem enc_same {L M : List Ent} (hG : Good M) (h : L <+: M) {n : Nat} (hn : n < L.length) : enc M n = enc L n := by
  obtain ⟨r, rfl⟩ := h
  exact enc_append L r _ hn
theorem TAt.pre {L M : List Ent} {i : Int} {t : List UInt8} (h : TAt L i t) (hG : Good M) (hp : L <+: M) : TAt M i t := by
  rcases h with h | ⟨n, h1, h2, h3⟩
  · exact .inl h
  · refine .inr ⟨n, h1, ?_, ?_⟩
    · have := hp.length_le; omega
    · rw [h3, enc_same hG hp h2]
theorem Good.enc_eq {L : List Ent} (hG : Good L) {n : Nat} {e : Ent} (he : L[n]? = some e) : enc L n = headL e.sh ++ (e.sh.args.map (enc L)).flatten :=
  Go.Proofs.YtobhpclemmhpoaaGreatDoor.enc_eq he (hG.wf.ok n e he).args
theorem Got.tat {L : List Ent} {sh : Shp} {m : Int × List Ent} (h : Got L sh m) (ha : ∀ t ∈ sh.args, t < L.length) : TAt m.2 m.1 (headL sh ++ (sh.args.map (enc L)).flatten) := by
  obtain ⟨n, e, h1, h2, h3, _⟩ := h.at_
  refine .inr ⟨n, h1, (List.getElem?_eq_some_iff.1 h2).1, ?_⟩
  rw [h.good.enc_eq h2, h3]
  congr 2
  exact List.map_congr_left fun t ht => (enc_same h.good h.pre (ha t ht)).symm
inductive TAts (L : List Ent) : List Int → List (List UInt8) → Prop
  | nil : TAts L [] []
  | cons {i : Int} {t : List UInt8} {l : List Int} {ts : List (List UInt8)} (h : TAt L i t) (k : TAts L l ts) : TAts L (i :: l) (t :: ts)
/-- Terms of the arena all of them, or one is none. -/
theorem tats {L : List Ent} : ∀ {l : List Int} {ts : List (List UInt8)}, TAts L l ts → (∃ d : List Nat, l = d.map Int.ofNat ∧ (∀ t ∈ d, t < L.length) ∧ ts = d.map (enc L)) ∨ ([] ∈ ts ∧ inAll L l = false)
  | [], [], .nil => .inl ⟨[], rfl, by simp, rfl⟩
  | i :: l, t :: ts, .cons h k => by
    rcases h with ⟨rfl, rfl⟩ | ⟨n, rfl, hn, rfl⟩
    · exact .inr ⟨by simp, by simp [inAll]⟩
    · rcases tats k with ⟨d, rfl, h2, rfl⟩ | ⟨h1, h2⟩
      · exact .inl ⟨n :: d, rfl, by simp; exact ⟨hn, h2⟩, rfl⟩
      · exact .inr ⟨by simp [h1], by
          simp only [inAll, List.all_cons] at h2 ⊢
          rw [h2]; simp⟩
theorem GoodSh.head_ne {L : List Ent} {sh : Shp} (h : GoodSh L sh) : headL sh ≠ [] := by
  cases h <;> simp [headL]
theorem enc_ne {L : List Ent} (hG : Good L) {n : Nat} (hn : n < L.length) : enc L n ≠ [] := by
  have he : L[n]? = some L[n] := List.getElem?_eq_getElem hn
  rw [hG.enc_eq he]
  intro h
  exact (hG.sh n _ he).head_ne (List.append_eq_nil_iff.1 h).1
theorem flat_sum {L : List Ent} (hG : Good L) : ∀ d : List Nat, (∀ t ∈ d, t < L.length) → ((d.map (enc L)).flatten).length = sumN L d
  | [], _ => rfl
  | t :: d, h => by
    have ht := h t (by simp)
    have he : L[t]? = some L[t] := List.getElem?_eq_getElem ht
    have h1 := enc_length hG t _ he
    have h2 := flat_sum hG d (fun x hx => h x (by simp [hx]))
    have h3 : sizeN L t = L[t].size := by unfold sizeN; rw [he]; rfl
    have h4 : sumN L (t :: d) = sizeN L t + sumN L d := by simp [sumN]
    rw [List.map_cons, List.flatten_cons, List.length_append, h1, h2, h4, h3]

/-- What build gives, beside the text of the same parts. -/
structure Same (L : List Ent) (m : Int × List Ent) (t : List UInt8) : Prop where
  good : Good m.2
  pre : L <+: m.2
  more : m.2.length ≤ L.length + 1
  is : TAt m.2 m.1 t
  new : m.2.length = L.length ∨ (m.2.length = L.length + 1 ∧ m.1 = L.length)
theorem Same.none {L : List Ent} (hG : Good L) : Same L (-1, L) [] := ⟨hG, List.prefix_refl _, by simp, .inl ⟨rfl, rfl⟩, .inl rfl⟩
theorem built_same {L : List Ent} (hG : Good L) (hd : Hd) (hk : hd.kind ≤ 10) (ha : hd.a ≤ 4294967295) (hb : hd.b ≤ 4294967295) {l : List Int} {ts : List (List UInt8)} (h : TAts L l ts) (hm : l.length ≤ 65536) (hlen : L.length < 1073741824)
    (hsh : ∀ d : List Nat, l = d.map Int.ofNat → (∀ t ∈ d, t < L.length) → GoodSh L (hd.with d)) (H : List UInt8) (hH : H.length = ownOf hd.kind + hd.s.size) (hHe : ∀ d : List Nat, d.length = l.length → headL (hd.with d) = H) :
    Same L (built L hd (ownOf hd.kind) l) (if [] ∈ ts then [] else fitsL (H ++ ts.flatten)) := by
  rcases tats h with ⟨d, rfl, hd2, rfl⟩ | ⟨h1, h2⟩
  · have hne : ¬ [] ∈ d.map (enc L) := by
      intro hc
      obtain ⟨t, ht, h0⟩ := List.mem_map.1 hc
      exact enc_ne hG (hd2 t ht) h0
    rw [if_neg hne]
    have hfl := flat_sum hG d hd2
    have hlm : d.length = (d.map Int.ofNat).length := by simp
    by_cases hsz : ownOf hd.kind + hd.s.size + sumN L d ≤ 131072
    · have hgot := built_got hG hd hk ha hb (l := d) (by simpa using hm) hd2 (hsh d rfl hd2) hsz hlen
      have ht := hgot.tat hd2
      rw [hHe d hlm] at ht
      have hf : fitsL (H ++ (d.map (enc L)).flatten) = H ++ (d.map (enc L)).flatten := by
        unfold fitsL
        rw [if_neg (by rw [List.length_append, hfl, hH]; omega)]
      rw [hf]
      obtain ⟨n, e, h3, _, _, h4⟩ := hgot.at_
      refine ⟨hgot.good, hgot.pre, ?_, ht, ?_⟩
      · rcases h4 with h4 | ⟨h4, _⟩
        · rw [h4]; omega
        · rw [h4]; simp
      · rcases h4 with h4 | ⟨h4, h5⟩
        · rw [h4]; exact .inl rfl
        · rw [h3, h4, h5]; exact .inr ⟨by simp, rfl⟩
    · have hf : fitsL (H ++ (d.map (enc L)).flatten) = [] := by
        unfold fitsL
        rw [if_pos (by rw [List.length_append, hfl, hH]; omega)]
      have hbn : built L hd (ownOf hd.kind) (d.map Int.ofNat) = (-1, L) := by
        unfold built
        rw [sizes_ofNat, if_neg (fun hh => hsz hh.2)]
      rw [hf, hbn]
      exact Same.none hG
  · rw [if_pos h1]
    have hbn : built L hd (ownOf hd.kind) l = (-1, L) := by
      unfold built
      rw [if_neg (fun hh => by rw [h2] at hh; exact absurd hh.1 (by simp))]
    rw [hbn]
    exact Same.none hG
end Go.Proofs.YtobhpclemmhpoaaGreatDoor

namespace Go.Proofs.YtobhpclemmhpoaaGreatDoor
open Go.RowKit

theorem bs_data (s : List UInt8) : (bs s).data.toList = s := by simp [bs]
theorem kind_head {L : List Ent} {sh : Shp} (h : GoodSh L sh) (r : List UInt8) : kindL (headL sh ++ r) = sh.kind := by
  cases h <;> simp [headL, kindL]
theorem kind_tat {L : List Ent} (hG : Good L) {i : Int} {t : List UInt8} (h : TAt L i t) : kindAt L i = (kindL t : Int) := by
  rcases h with ⟨rfl, rfl⟩ | ⟨n, rfl, hn, rfl⟩
  · unfold kindAt
    rw [at_no (.inl (by omega))]
    rfl
  · have he : L[n]? = some L[n] := List.getElem?_eq_getElem hn
    rw [kindAt_nat, hG.enc_eq he, kind_head (hG.sh n _ he)]
    unfold kindN
    rw [he]; rfl
theorem kind_nat {L : List Ent} {d : Nat} {k : Int} (h : kindAt L (Int.ofNat d) = k) : (kindN L d : Int) = k := by
  rw [← h]; exact (kindAt_nat L d).symm
theorem num_same (x : Int) : isNum x = numZ x := by
  have h1 := isNum_iff (n := x)
  unfold numZ
  cases hx : isNum x with
  | true => exact (decide_eq_true (h1.1 hx)).symm
  | false => exact (decide_eq_false fun hh => by rw [h1.2 hh] at hx; cases hx).symm

theorem data_same {L : List Ent} (hG : Good L) (hlen : L.length < 1073741824) (s : List UInt8) : Same L (dataM L (bs s)) (refDataL s) := by
  have h := built_same hG ⟨1, 0, 0, bs s⟩ (by simp) (by simp) (by simp) (l := []) (ts := []) .nil (by simp) hlen (fun d hd _ => by
    have : d = [] := by simpa using hd.symm
    subst this; exact .data _) (241 :: cnt s) (by simp [cnt, pack4, ownOf, bs_size]; omega) (fun d _ => by simp [headL, Hd.with, bs_data])
  have e : refDataL s = if ([] : List UInt8) ∈ ([] : List (List UInt8)) then [] else fitsL (241 :: cnt s ++ ([] : List (List UInt8)).flatten) := by
    unfold refDataL
    simp only [List.not_mem_nil, if_false, List.flatten_nil, List.append_nil]
    by_cases hs : 131072 < s.length
    · rw [if_pos hs]
      unfold fitsL
      rw [if_pos (by simp [cnt, pack4]; omega)]
    · rw [if_neg hs]
      rfl
  rw [e]
  exact h
theorem nonce_same {L : List Ent} (hG : Good L) (hlen : L.length < 1073741824) (x y : Int) : Same L (nonceM L x y) (refNonceL x y) := by
  unfold nonceM refNonceL
  rw [num_same, num_same]
  by_cases hn : numZ x = true ∧ numZ y = true
  · rw [if_pos hn, if_pos hn]
    obtain ⟨a, ha, ha2, ha3⟩ := numZ_nat hn.1
    obtain ⟨b, hb, hb2, hb3⟩ := numZ_nat hn.2
    rw [ha3, hb3]
    have h := built_same hG ⟨2, a, b, noStr⟩ (by simp) (by simp; omega) (by simp; omega) (l := []) (ts := []) .nil (by simp) hlen (fun d hd _ => by
      have : d = [] := by simpa using hd.symm
      subst this; exact .nonce a b ha2 hb2) (242 :: (pack4 a ++ pack4 b)) (by simp [pack4, ownOf, noStr]; rfl) (fun d _ => by simp [headL, Hd.with])
    simp only [List.not_mem_nil, if_false, List.flatten_nil, List.append_nil] at h
    have e : fitsL (242 :: (pack4 a ++ pack4 b)) = tagL 2 ++ pack4 a ++ pack4 b := by
      unfold fitsL
      rw [if_neg (by simp [pack4])]
      rfl
    rw [e] at h
    exact h
  · rw [if_neg hn, if_neg hn]
    exact Same.none hG
theorem key_same {L : List Ent} (hG : Good L) (hlen : L.length < 1073741824) (x : Int) : Same L (keyM L x) (refKeyL x) := by
  unfold keyM refKeyL
  rw [num_same]
  by_cases hn : numZ x = true
  · rw [if_pos hn, if_pos hn]
    obtain ⟨a, ha, ha2, ha3⟩ := numZ_nat hn
    rw [ha3]
    have h := built_same hG ⟨3, a, 0, noStr⟩ (by simp) (by simp; omega) (by simp) (l := []) (ts := []) .nil (by simp) hlen (fun d hd _ => by
      have : d = [] := by simpa using hd.symm
      subst this; exact .key a ha2) (243 :: pack4 a) (by simp [pack4, ownOf, noStr]; rfl) (fun d _ => by simp [headL, Hd.with])
    simp only [List.not_mem_nil, if_false, List.flatten_nil, List.append_nil] at h
    have e : fitsL (243 :: pack4 a) = tagL 3 ++ pack4 a := by
      unfold fitsL
      rw [if_neg (by simp [pack4])]
      rfl
    rw [e] at h
    exact h
  · rw [if_neg hn, if_neg hn]
    exact Same.none hG
theorem hash_same {L : List Ent} (hG : Good L) (hlen : L.length < 1073741824) {i : Int} {t : List UInt8} (ht : TAt L i t) : Same L (hashM L i) (refHashL t) := by
  have h := built_same hG ⟨7, 0, 0, noStr⟩ (by simp) (by simp) (by simp) (.cons ht .nil) (by simp) hlen (fun d hd hd2 => by
    obtain ⟨n, rfl⟩ : ∃ n, d = [n] := by
      cases d with
      | nil => simp at hd
      | cons n r => cases r with
        | nil => exact ⟨n, rfl⟩
        | cons => simp at hd
    exact .hash n (hd2 n (by simp))) [247] (by simp [ownOf, noStr]; rfl) (fun d _ => by simp [headL, Hd.with])
  have e : refHashL t = if ([] : List UInt8) ∈ [t] then [] else fitsL ([247] ++ [t].flatten) := by
    unfold refHashL
    by_cases h0 : t = []
    · rw [if_pos h0, if_pos (by simp [h0])]
    · rw [if_neg h0, if_neg (by simp; exact h0)]
      simp [tagL]
  rw [e]
  exact h
theorem key_len {L : List Ent} (hG : Good L) {i : Int} {t : List UInt8} (ht : TAt L i t) (hk : kindL t = 3) : t.length = 5 := by
  rcases ht with ⟨rfl, rfl⟩ | ⟨n, rfl, hn, rfl⟩
  · simp [kindL] at hk
  · have he : L[n]? = some L[n] := List.getElem?_eq_getElem hn
    have hs := hG.sh n _ he
    rw [hG.enc_eq he, kind_head hs] at hk
    rw [hG.enc_eq he]
    generalize L[n].sh = sh at *
    cases hs <;> simp at hk
    simp [headL, pack4]
theorem two_of {k t : Int} {d : List Nat} (h : [k, t] = d.map Int.ofNat) : ∃ a b : Nat, d = [a, b] ∧ k = a ∧ t = b := by
  match d, h with
  | [a, b], h =>
    simp only [List.map_cons, List.map_nil, List.cons.injEq, and_true] at h
    exact ⟨a, b, rfl, h.1, h.2⟩
theorem three_of {k t u : Int} {d : List Nat} (h : [k, t, u] = d.map Int.ofNat) : ∃ a b c : Nat, d = [a, b, c] := by
  match d, h with
  | [a, b, c], _ => exact ⟨a, b, c, rfl⟩
theorem pub_same {L : List Ent} (hG : Good L) (hlen : L.length < 1073741824) {i : Int} {t : List UInt8} (ht : TAt L i t) : Same L (pubM L i) (refPubL t) := by
  have hk := kind_tat hG ht
  unfold pubM refPubL
  by_cases h3 : kindL t = 3
  · have hki : kindAt L i = 3 := by rw [hk, h3]; rfl
    rw [if_pos hki, if_pos h3]
    have hl := key_len hG ht h3
    have h := built_same hG ⟨4, 0, 0, noStr⟩ (by simp) (by simp) (by simp) (.cons ht .nil) (by simp) hlen (fun d hd hd2 => by
      obtain ⟨n, rfl⟩ : ∃ n, d = [n] := by
        match d, hd with
        | [n], _ => exact ⟨n, rfl⟩
      have hin : i = Int.ofNat n := by simpa using hd
      refine .pub n ?_
      have := kind_nat (L := L) (d := n) (k := 3) (by rw [← hin]; exact hki)
      omega) [244] (by simp [ownOf, noStr]; rfl) (fun d _ => by simp [headL, Hd.with])
    have e : (if ([] : List UInt8) ∈ [t] then [] else fitsL ([244] ++ [t].flatten)) = tagL 4 ++ t := by
      rw [if_neg (by simp; intro h0; rw [h0] at hl; simp at hl)]
      unfold fitsL
      rw [if_neg (by simp; omega)]
      simp [tagL]
    rw [e] at h
    exact h
  · rw [if_neg (fun hc => h3 (by rw [hk] at hc; omega)), if_neg h3]
    exact Same.none hG
theorem sign_same {L : List Ent} (hG : Good L) (hlen : L.length < 1073741824) (s : List UInt8) {i j : Int} {k t : List UInt8} (hk : TAt L i k) (ht : TAt L j t) : Same L (signM L (bs s) i j) (refSignL s k t) := by
  have hkk := kind_tat hG hk
  unfold signM refSignL
  rw [bs_size]
  by_cases hc : (1 ≤ s.length ∧ s.length ≤ 64) ∧ kindAt L i = 3
  · rw [if_pos hc]
    have h3 : kindL k = 3 := by have := hc.2; omega
    have hx : textL s 64 = true := decide_eq_true ⟨hc.1.1, by omega⟩
    have h := built_same hG ⟨6, 0, 0, bs s⟩ (by simp) (by simp) (by simp) (.cons hk (.cons ht .nil)) (by simp) hlen (fun d hd hd2 => by
      obtain ⟨a, b, rfl, h1, h2⟩ := two_of hd
      refine .sig (bs s) a b (by rw [bs_size]; exact hc.1.1) (by rw [bs_size]; exact hc.1.2) ?_ (hd2 b (by simp))
      have := kind_nat (L := L) (d := a) (k := 3) (by rw [show Int.ofNat a = i from h1.symm]; exact hc.2)
      omega) (246 :: cnt s) (by simp [cnt, pack4, ownOf, bs_size]; omega) (fun d _ => by simp [headL, Hd.with, bs_data])
    have hkn : k ≠ [] := by rintro rfl; simp [kindL] at h3
    have e : (if ([] : List UInt8) ∈ [k, t] then [] else fitsL (246 :: cnt s ++ [k, t].flatten)) = if textL s 64 = true ∧ kindL k = 3 ∧ t ≠ [] then fitsL (tagL 6 ++ pack4 s.length ++ s ++ k ++ t) else [] := by
      by_cases h0 : t = []
      · rw [if_pos (by simp [h0]), if_neg (fun hh => hh.2.2 h0)]
      · rw [if_neg (by simp; exact ⟨hkn, h0⟩), if_pos ⟨hx, h3, h0⟩]
        simp [tagL, cnt]
    rw [e] at h
    exact h
  · rw [if_neg hc, if_neg (fun hh => hc (by
      have := of_decide_eq_true hh.1
      exact ⟨⟨this.1, by omega⟩, by rw [hkk, hh.2.1]; rfl⟩))]
    exact Same.none hG
theorem derive_same {L : List Ent} (hG : Good L) (hlen : L.length < 1073741824) (c : UInt8) {i j k : Int} {x y z : List UInt8} (hx : TAt L i x) (hy : TAt L j y) (hz : TAt L k z) : Same L (deriveM L c.toNat i j k) (refDeriveL c x y z) := by
  have hc := UInt8.toNat_lt c
  have h := built_same hG ⟨8, 0, c.toNat, noStr⟩ (by simp) (by simp) (by simp; omega) (.cons hx (.cons hy (.cons hz .nil))) (by simp) hlen (fun d hd hd2 => by
    obtain ⟨a, b, e, rfl⟩ := three_of hd
    exact .derive c.toNat a b e (by omega) (hd2 a (by simp)) (hd2 b (by simp)) (hd2 e (by simp))) [248, c] (by simp [ownOf, noStr]; rfl) (fun d _ => by simp [headL, Hd.with])
  have e : refDeriveL c x y z = if ([] : List UInt8) ∈ [x, y, z] then [] else fitsL ([248, c] ++ [x, y, z].flatten) := by
    unfold refDeriveL
    by_cases h0 : x ≠ [] ∧ y ≠ [] ∧ z ≠ []
    · rw [if_pos h0, if_neg (by simp; exact ⟨h0.1, h0.2.1, h0.2.2⟩)]
      simp [tagL]
    · rw [if_neg h0, if_pos (by
        simp
        by_cases h1 : x = []
        · exact .inl h1
        · by_cases h2 : y = []
          · exact .inr (.inl h2)
          · by_cases h3 : z = []
            · exact .inr (.inr h3)
            · exact absurd ⟨h1, h2, h3⟩ h0)]
  rw [e]
  exact h
theorem seal_same {L : List Ent} (hG : Good L) (hlen : L.length < 1073741824) (n : Nat) (hn : n ≤ 4294967295) {i j : Int} {k t : List UInt8} (hk : TAt L i k) (ht : TAt L j t) : Same L (sealM L i n j) (refSealL k n t) := by
  have h := built_same hG ⟨9, 0, n, noStr⟩ (by simp) (by simp) (by simp; omega) (.cons hk (.cons ht .nil)) (by simp) hlen (fun d hd hd2 => by
    obtain ⟨a, b, rfl, _, _⟩ := two_of hd
    exact .sealed a n b hn (hd2 a (by simp)) (hd2 b (by simp))) (249 :: pack4 n) (by simp [pack4, ownOf, noStr]; rfl) (fun d _ => by simp [headL, Hd.with])
  have e : refSealL k n t = if ([] : List UInt8) ∈ [k, t] then [] else fitsL (249 :: pack4 n ++ [k, t].flatten) := by
    unfold refSealL
    by_cases h0 : k ≠ [] ∧ t ≠ []
    · rw [if_pos h0, if_neg (by simp; exact h0)]
      simp [tagL]
    · rw [if_neg h0, if_pos (by
        simp
        by_cases h1 : k = []
        · exact .inl h1
        · by_cases h2 : t = []
          · exact .inr h2
          · exact absurd ⟨h1, h2⟩ h0)]
  rw [e]
  exact h
end Go.Proofs.YtobhpclemmhpoaaGreatDoor

namespace Go.Proofs.YtobhpclemmhpoaaGreatDoor
open Go.RowKit

theorem base_same {L : List Ent} (hG : Good L) (hlen : L.length < 1073741824) (s : List UInt8) : Same L (baseM L (bs s)) (refBaseL s) := by
  unfold baseM refBaseL
  rw [bs_size]
  by_cases hc : 1 ≤ s.length ∧ s.length ≤ 2100
  · rw [if_pos hc, if_pos (show textL s 2100 = true from decide_eq_true ⟨hc.1, by omega⟩)]
    have h := built_same hG ⟨5, 0, 0, bs s⟩ (by simp) (by simp) (by simp) (l := []) (ts := []) .nil (by simp) hlen (fun d hd _ => by
      have : d = [] := by simpa using hd.symm
      subst this
      exact .share (bs s) [] (by rw [bs_size]; exact hc.1) (by rw [bs_size]; exact hc.2) (by simp) (by simp) .nil) (245 :: (cnt s ++ pack4 0)) (by simp [cnt, pack4, ownOf, bs_size]; omega) (fun d hd => by
        have : d.length = 0 := by simpa using hd
        simp [headL, Hd.with, bs_data, this])
    have e : (if ([] : List UInt8) ∈ ([] : List (List UInt8)) then [] else fitsL (245 :: (cnt s ++ pack4 0) ++ ([] : List (List UInt8)).flatten)) = refShareL s [] := by
      simp [refShareL, tagL, cnt]
    rw [e] at h
    exact h
  · rw [if_neg hc, if_neg (fun hh => hc (by
      have := of_decide_eq_true hh
      exact ⟨this.1, by omega⟩))]
    exact Same.none hG
theorem TAts.length {L : List Ent} {l : List Int} {ts : List (List UInt8)} (h : TAts L l ts) : l.length = ts.length := by
  induction h with
  | nil => rfl
  | cons h k ih => simp [ih]
theorem list_same {L : List Ent} (hG : Good L) (hlen : L.length < 1073741824) {l : List Int} {ts : List (List UInt8)} (hl : TAts L l ts) : Same L (listM L l) (refListL ts) := by
  have hln := hl.length
  unfold listM refListL
  by_cases hc : l.length ≤ 32
  · rw [if_pos hc]
    have h := built_same hG ⟨10, 0, 0, noStr⟩ (by simp) (by simp) (by simp) hl (by omega) hlen (fun d hd hd2 => by
      have : d.length = l.length := by rw [hd]; simp
      exact .list d (by omega) hd2) (250 :: pack4 ts.length) (by simp [pack4, ownOf, noStr]; rfl) (fun d hd => by simp [headL, Hd.with, hd, hln])
    have e : (if ([] : List UInt8) ∈ ts then [] else fitsL (250 :: pack4 ts.length ++ ts.flatten)) = if ts.length ≤ 32 ∧ (∀ x ∈ ts, x ≠ []) ∧ 5 + ts.flatten.length ≤ 131072 then tagL 10 ++ pack4 ts.length ++ ts.flatten else [] := by
      by_cases h0 : ([] : List UInt8) ∈ ts
      · rw [if_pos h0, if_neg (fun hh => hh.2.1 [] h0 rfl)]
      · rw [if_neg h0]
        unfold fitsL
        by_cases h1 : 5 + ts.flatten.length ≤ 131072
        · rw [if_neg (by simp [pack4]; simp at h1; omega), if_pos ⟨by omega, fun x hx e => h0 (e ▸ hx), h1⟩]
          simp [tagL]
        · rw [if_pos (by simp [pack4]; simp at h1; omega), if_neg (fun hh => h1 hh.2.2)]
    rw [e] at h
    exact h
  · rw [if_neg hc, if_neg (fun hh => hc (by omega))]
    exact Same.none hG

end Go.Proofs.YtobhpclemmhpoaaGreatDoor

namespace Go.Proofs.YtobhpclemmhpoaaGreatDoor
open Go.RowKit

theorem tats_of {L : List Ent} : ∀ (l : List Int) (ts : List (List UInt8)), l.length = ts.length → (∀ (k : Nat) (i : Int) (t : List UInt8), l[k]? = some i → ts[k]? = some t → TAt L i t) → TAts L l ts
  | [], [], _, _ => .nil
  | i :: l, t :: ts, hl, h => .cons (h 0 i t rfl rfl) (tats_of l ts (by simpa using hl) (fun k i t h1 h2 => h (k + 1) i t h1 h2))
  | [], _ :: _, hl, _ => by simp at hl
  | _ :: _, [], hl, _ => by simp at hl
def ExpSame : Prop := ∀ (L : List Ent) (p q : Int) (P Q : List UInt8) (m : Int × List Ent), Good L → L.length < 1073741824 → TAt L p P → TAt L q Q → ExpTo L p q m → Same L m (refExpL P Q)

/-- Equal numbers, equal texts. -/
theorem TAt.same {L : List Ent} (hG : Good L) {i j : Int} {t u : List UInt8} (h : TAt L i t) (k : TAt L j u) : i = j ↔ t = u := by
  rcases h with ⟨rfl, rfl⟩ | ⟨n, rfl, hn, rfl⟩
  · rcases k with ⟨rfl, rfl⟩ | ⟨m, rfl, hm, rfl⟩
    · simp
    · constructor
      · intro e; omega
      · intro e; exact absurd e.symm (enc_ne hG hm)
  · rcases k with ⟨rfl, rfl⟩ | ⟨m, rfl, hm, rfl⟩
    · constructor
      · intro e; omega
      · intro e; exact absurd e (enc_ne hG hn)
    · constructor
      · intro e
        have : n = m := by omega
        rw [this]
      · intro e
        have := (enc_apart hG n m [] [] hn hm (by rw [e])).1
        rw [this]
theorem TAt.none_iff {L : List Ent} (hG : Good L) {i : Int} {t : List UInt8} (h : TAt L i t) : i = -1 ↔ t = [] := h.same hG (.inl ⟨rfl, rfl⟩)
end Go.Proofs.YtobhpclemmhpoaaGreatDoor

namespace Go.Proofs.YtobhpclemmhpoaaGreatDoor
open Go.RowKit

theorem less_nil : lessL [] [] = false := rfl
theorem less_cons (m n : Nat) (x y : List UInt8) : lessL (UInt8.ofNat m :: x) (UInt8.ofNat n :: y) = (decide (m % 256 < n % 256) || (decide (m % 256 = n % 256) && lessL x y)) := by
  show (decide (UInt8.ofNat m < UInt8.ofNat n) || (UInt8.ofNat m == UInt8.ofNat n && Op.bytesLess x y)) = _
  have h1 : (UInt8.ofNat m < UInt8.ofNat n) ↔ m % 256 < n % 256 := by
    rw [UInt8.lt_iff_toNat_lt, UInt8.toNat_ofNat', UInt8.toNat_ofNat']
  have h2 : (UInt8.ofNat m == UInt8.ofNat n) = decide (m % 256 = n % 256) := by
    by_cases h : m % 256 = n % 256
    · rw [decide_eq_true h, beq_iff_eq]
      apply UInt8.toNat_inj.1
      rw [UInt8.toNat_ofNat', UInt8.toNat_ofNat']
      exact h
    · rw [decide_eq_false h, beq_eq_false_iff_ne]
      intro hc
      apply h
      have := congrArg UInt8.toNat hc
      rw [UInt8.toNat_ofNat', UInt8.toNat_ofNat'] at this
      exact this
  rw [h2]
  rw [decide_eq_decide.2 h1]
  rfl
theorem less_pack4 (a c : Nat) (ha : a < 4294967296) (hc : c < 4294967296) (x y : List UInt8) : lessL (pack4 a ++ x) (pack4 c ++ y) = (decide (a < c) || (decide (a = c) && lessL x y)) := by
  show lessL (UInt8.ofNat (a / 16777216) :: UInt8.ofNat (a / 65536) :: UInt8.ofNat (a / 256) :: UInt8.ofNat a :: x) (UInt8.ofNat (c / 16777216) :: UInt8.ofNat (c / 65536) :: UInt8.ofNat (c / 256) :: UInt8.ofNat c :: y) = _
  rw [less_cons, less_cons, less_cons, less_cons]
  generalize lessL x y = z
  have h1 := four_digits a ha
  have h2 := four_digits c hc
  have e1 : a / 16777216 % 256 = a / 16777216 := by omega
  have e2 : c / 16777216 % 256 = c / 16777216 := by omega
  rw [e1, e2]
  obtain ⟨h1, _⟩ := h1
  obtain ⟨h2, _⟩ := h2
  have b1 : a / 65536 % 256 < 256 := Nat.mod_lt _ (by omega)
  have b2 : a / 256 % 256 < 256 := Nat.mod_lt _ (by omega)
  have b3 : a % 256 < 256 := Nat.mod_lt _ (by omega)
  have d1 : c / 65536 % 256 < 256 := Nat.mod_lt _ (by omega)
  have d2 : c / 256 % 256 < 256 := Nat.mod_lt _ (by omega)
  have d3 : c % 256 < 256 := Nat.mod_lt _ (by omega)
  generalize a / 16777216 = a3 at *
  generalize a / 65536 % 256 = a2 at *
  generalize a / 256 % 256 = a1 at *
  generalize a % 256 = a0 at *
  generalize c / 16777216 = c3 at *
  generalize c / 65536 % 256 = c2 at *
  generalize c / 256 % 256 = c1 at *
  generalize c % 256 = c0 at *
  clear e1 e2
  cases z
  · simp only [Bool.and_false, Bool.or_false]
    by_cases hh : a < c
    · rw [decide_eq_true hh]
      simp
      omega
    · rw [decide_eq_false hh]
      simp
      omega
  · simp only [Bool.and_true]
    by_cases hh : a < c ∨ a = c
    · have : (decide (a < c) || decide (a = c)) = true := by simpa using hh
      rw [this]
      simp
      omega
    · have : (decide (a < c) || decide (a = c)) = false := by simpa using hh
      rw [this]
      simp
      omega
theorem less_nonce (a b c e : Nat) (ha : a < 4294967296) (hb : b < 4294967296) (hc : c < 4294967296) (he : e < 4294967296) : lessL (242 :: (pack4 a ++ pack4 b)) (242 :: (pack4 c ++ pack4 e)) = decide (a < c ∨ (a = c ∧ b < e)) := by
  show lessL (UInt8.ofNat 242 :: (pack4 a ++ pack4 b)) (UInt8.ofNat 242 :: (pack4 c ++ pack4 e)) = _
  rw [less_cons]
  have h1 := less_pack4 b e hb he [] []
  rw [List.append_nil, List.append_nil, less_nil] at h1
  rw [less_pack4 a c ha hc, h1]
  simp
end Go.Proofs.YtobhpclemmhpoaaGreatDoor

namespace Go.Proofs.YtobhpclemmhpoaaGreatDoor
open Go.RowKit

theorem byteAt_drop (d : List UInt8) (k j : Nat) {x : List UInt8} (h : d.drop k = x) : byteAt d (k + j) = (x.getD j 0).toNat := by
  subst h
  unfold byteAt
  simp [List.getD, List.getElem?_drop]
theorem drop_len {d : List UInt8} {k : Nat} {x r : List UInt8} (h : d.drop k = x ++ r) (hx : x ≠ []) : k + x.length ≤ d.length := by
  have := congrArg List.length h
  rw [List.length_drop, List.length_append] at this
  have hp := List.length_pos_iff.2 hx
  omega
theorem drop_more {d : List UInt8} {k : Nat} {x r : List UInt8} (h : d.drop k = x ++ r) : d.drop (k + x.length) = r := by
  rw [← List.drop_drop, h, List.drop_left]
theorem num4P_at {d : List UInt8} {k n : Nat} {r : List UInt8} (hn : n < 4294967296) (h : d.drop k = pack4 n ++ r) : num4P d k = (n, true) := by
  have hl := drop_len h (by simp [pack4])
  have hl4 : (pack4 n).length = 4 := rfl
  rw [hl4] at hl
  unfold num4P
  rw [if_pos hl]
  have h0 := byteAt_drop d k 0 h
  have h1 := byteAt_drop d k 1 h
  have h2 := byteAt_drop d k 2 h
  have h3 := byteAt_drop d k 3 h
  rw [Nat.add_zero] at h0
  unfold numAt
  rw [h0, h1, h2, h3]
  simp only [pack4, List.cons_append, List.nil_append, List.getD_cons_zero, List.getD_cons_succ, UInt8.toNat_ofNat', Nat.reducePow]
  have := four_digits n hn
  have e1 : n / 16777216 % 256 = n / 16777216 := by omega
  rw [e1]
  rw [this.1]
theorem cutL_at {d : List UInt8} {k : Nat} {x r : List UInt8} (h : d.drop k = x ++ r) : cutL d k (k + x.length) = x := by
  unfold cutL
  rw [List.drop_take, h, Nat.add_sub_cancel_left, List.take_left]
theorem text4P_at {d : List UInt8} {k : Nat} {s r : List UInt8} (hs : s.length < 4294967296) (h : d.drop k = cnt s ++ r) : text4P d k = (s, k + (4 + s.length), true) := by
  have h' : d.drop k = pack4 s.length ++ (s ++ r) := by rw [h, cnt, List.append_assoc]
  have hn := num4P_at hs h'
  have hl := drop_len h (by simp [cnt, pack4])
  have hlc : (cnt s).length = 4 + s.length := by simp [cnt, pack4]; omega
  have hl4 : (pack4 s.length).length = 4 := rfl
  have hd := drop_more h'
  rw [hl4] at hd
  rw [hlc] at hl
  unfold num4P at hn
  rw [if_pos (by omega)] at hn
  have hna : numAt d k = s.length := by injection hn
  unfold text4P
  rw [hna, if_pos ⟨by omega, by omega⟩, cutL_at hd]
  simp [Nat.add_assoc]
/-- Terms in a row, each of which the parser reads where it stands. -/
theorem manyP_at {p : Nat → Parsed} {d r : List UInt8} : ∀ (ts : List (List UInt8)) (e : Nat), d.drop e = ts.flatten ++ r → (∀ (i k : Nat) (t r' : List UInt8), ts[i]? = some t → e ≤ k → d.drop k = t ++ r' → (p k).2 = (k + t.length, true)) →
    manyP p d ts.length e = (ts, e + ts.flatten.length, true)
  | [], e, _, _ => by simp [manyP]
  | t :: ts, e, h, hp => by
    have h1 : d.drop e = t ++ (ts.flatten ++ r) := by rw [h, List.flatten_cons, List.append_assoc]
    have h2 := hp 0 e t _ rfl (Nat.le_refl _) h1
    have h3 := manyP_at ts (e + t.length) (drop_more h1) (fun i k u r' hi hk hd => hp (i + 1) k u r' hi (by omega) hd)
    rw [List.length_cons, manyP_yes (by rw [h2]), h2]
    simp only
    rw [h3, cutL_at h1]
    simp [Nat.add_assoc]
end Go.Proofs.YtobhpclemmhpoaaGreatDoor

namespace Go.Proofs.YtobhpclemmhpoaaGreatDoor
open Go.RowKit

def nodeSh (L : List Ent) (sh : Shp) : RNode := ⟨sh.kind, sh.a, sh.b, sh.s.data.toList, sh.args.map (enc L)⟩
theorem s_len (s : ByteArray) : s.data.toList.length = s.size := by rw [Array.length_toList]; rfl
theorem head_at {L : List Ent} {sh : Shp} (h : GoodSh L sh) (hs : sh.s.size ≤ 131072) {d : List UInt8} {k : Nat} {r : List UInt8} (hd : d.drop k = headL sh ++ r) :
    byteAt d k = 240 + sh.kind ∧ headP d (sh.kind : Int) (k + 1) = ⟨sh.a, sh.b, sh.s.data.toList, k + (headL sh).length, true, sh.args.length⟩ := by
  have h0 := byteAt_drop d k 0 hd
  rw [Nat.add_zero] at h0
  cases h with
  | data s =>
    have h1 : d.drop (k + 1) = cnt s.data.toList ++ r := drop_more (x := [241]) hd
    have ht := text4P_at (by rw [s_len]; simp only at hs; omega) h1
    refine ⟨h0, ?_⟩
    simp [headP, ht, headL, cnt_length]
    omega
  | nonce a b ha hb =>
    have h1 : d.drop (k + 1) = pack4 a ++ (pack4 b ++ r) := (drop_more (x := [242]) (r := (pack4 a ++ pack4 b) ++ r) hd).trans (List.append_assoc _ _ _)
    have h2 : d.drop (k + 1 + 4) = pack4 b ++ r := drop_more h1
    have n1 := num4P_at (by omega) h1
    have n2 := num4P_at (by omega) h2
    refine ⟨h0, ?_⟩
    simp [headP, n1, n2, headL, pack4, noStr]
  | key a ha =>
    have h1 : d.drop (k + 1) = pack4 a ++ r := drop_more (x := [243]) hd
    have n1 := num4P_at (by omega) h1
    refine ⟨h0, ?_⟩
    simp [headP, n1, headL, pack4, noStr]
  | pub t _ =>
    refine ⟨h0, ?_⟩
    simp [headP, headL, noStr]
  | share s l h1 h2 h3 _ _ =>
    have e1 : d.drop (k + 1) = cnt s.data.toList ++ (pack4 l.length ++ r) := (drop_more (x := [245]) (r := (cnt s.data.toList ++ pack4 l.length) ++ r) hd).trans (List.append_assoc _ _ _)
    have ht := text4P_at (by rw [s_len]; omega) e1
    have e2 := drop_more e1
    rw [cnt_length] at e2
    have n1 := num4P_at (n := l.length) (by omega) e2
    rw [s_len] at ht
    refine ⟨h0, ?_⟩
    simp [headP, ht, n1, headL, cnt_length, pack4, h3]
    omega
  | sig s a b h1 h2 _ _ =>
    have e1 : d.drop (k + 1) = cnt s.data.toList ++ r := drop_more (x := [246]) hd
    have ht := text4P_at (by rw [s_len]; omega) e1
    refine ⟨h0, ?_⟩
    simp [headP, ht, headL, cnt_length]
    omega
  | hash t _ =>
    refine ⟨h0, ?_⟩
    simp [headP, headL, noStr]
  | derive c x y z hc _ _ _ =>
    have h1 := byteAt_drop d k 1 hd
    have hl := drop_len hd (by simp [headL])
    simp [headL] at hl
    have hlt : k + 1 < d.length := by omega
    have hcc : c % 256 = c := by omega
    refine ⟨h0, ?_⟩
    simp [headP, headL, noStr, hlt, h1, hcc]
  | sealed a n b hn _ _ =>
    have h1 : d.drop (k + 1) = pack4 n ++ r := drop_more (x := [249]) hd
    have n1 := num4P_at (by omega) h1
    refine ⟨h0, ?_⟩
    simp [headP, n1, headL, pack4, noStr]
  | list l hl _ =>
    have h1 : d.drop (k + 1) = pack4 l.length ++ r := drop_more (x := [250]) hd
    have n1 := num4P_at (n := l.length) (by omega) h1
    refine ⟨h0, ?_⟩
    simp [headP, n1, headL, pack4, noStr, hl]
theorem kind_enc {L : List Ent} (hG : Good L) {t m : Nat} (h : kindN L t = m) (hm : m ≠ 0) : kindL (enc L t) = m ∧ t < L.length := by
  unfold kindN at h
  cases he : L[t]? with
  | none => rw [he] at h; exact absurd h.symm hm
  | some e =>
    rw [he] at h
    rw [hG.enc_eq he, kind_head (hG.sh t e he)]
    exact ⟨h, (List.getElem?_eq_some_iff.1 he).1⟩
theorem enc_nonce {L : List Ent} (hG : Good L) {t : Nat} (h : kindN L t = 2) : ∃ a b : Nat, a ≤ 2147483647 ∧ b ≤ 2147483647 ∧ enc L t = 242 :: (pack4 a ++ pack4 b) ∧ NonceOf L t ((a : Int), (b : Int)) := by
  obtain ⟨e, a, b, he, hsh, _⟩ := hG.nonce h
  have hs := hG.sh t e he
  rw [hsh] at hs
  cases hs with
  | nonce _ _ ha hb =>
    refine ⟨a, b, ha, hb, ?_, ?_⟩
    · rw [hG.enc_eq he, hsh]
      simp [headL]
    · exact ⟨⟨isNum_iff.2 ⟨by simp, by simp; omega⟩, isNum_iff.2 ⟨by simp, by simp; omega⟩⟩, e, he, by rw [hsh]; simp⟩
theorem less_enc {L : List Ent} (hG : Good L) {t u : Nat} (ht : kindN L t = 2) (hu : kindN L u = 2) : lessL (enc L t) (enc L u) = ltI L t u := by
  obtain ⟨a, b, ha, hb, h1, h2⟩ := enc_nonce hG ht
  obtain ⟨c, e, hc, he, h3, h4⟩ := enc_nonce hG hu
  rw [h1, h3, less_nonce a b c e (by omega) (by omega) (by omega) (by omega)]
  have h := h2.lt h4
  simp only at h
  cases hl : ltI L t u with
  | true =>
    have := h.1 hl
    exact decide_eq_true (by omega)
  | false =>
    refine decide_eq_false fun hcc => ?_
    have : ltI L t u = true := h.2 (by omega)
    rw [hl] at this
    cases this
theorem right_sh {L : List Ent} (hG : Good L) {sh : Shp} (h : GoodSh L sh) : rightP (nodeSh L sh) = true := by
  cases h with
  | data s => simp [rightP, nodeSh]
  | nonce a b ha hb =>
    have h1 : numZ (a : Int) = true := decide_eq_true (by omega)
    have h2 : numZ (b : Int) = true := decide_eq_true (by omega)
    simp [rightP, nodeSh, h1, h2]
  | key a ha =>
    have h1 : numZ (a : Int) = true := decide_eq_true (by omega)
    have h2 : numZ 0 = true := decide_eq_true (by omega)
    simp [rightP, nodeSh, h1, h2]
  | pub k hk => simp [rightP, nodeSh, (kind_enc hG hk (by omega)).1]
  | share s l h1 h2 h3 h4 h5 =>
    have hx : textL s.data.toList 2100 = true := decide_eq_true (by rw [s_len]; omega)
    have hy : sharesOk (l.map (enc L)) = true := sharesOk_all fun j hj => by
      rw [List.length_map] at hj
      have hkj := h4 l[j] (List.getElem_mem hj)
      have e1 : (l.map (enc L)).getD j [] = enc L l[j] := by simp [List.getD, hj]
      unfold stepOk
      rw [e1, (kind_enc hG hkj (by omega)).1]
      by_cases h0 : j = 0
      · simp [h0]
      · have hj1 : j - 1 < l.length := by omega
        have e2 : (l.map (enc L)).getD (j - 1) [] = enc L l[j - 1] := by simp [List.getD, hj1]
        rw [e2, less_enc hG hkj (h4 l[j - 1] (List.getElem_mem hj1))]
        have := List.pairwise_iff_getElem.1 h5 (j - 1) j hj1 hj (by omega)
        rw [this]
        simp
    simp [rightP, nodeSh, hx, hy]
  | sig s k t h1 h2 hk _ =>
    have hx : textL s.data.toList 64 = true := decide_eq_true (by rw [s_len]; omega)
    simp [rightP, nodeSh, hx, (kind_enc hG hk (by omega)).1]
  | hash t _ => simp [rightP, nodeSh]
  | derive c x y z _ _ _ _ => simp [rightP, nodeSh]
  | sealed k n t _ _ _ => simp [rightP, nodeSh]
  | list l _ _ => simp [rightP, nodeSh]
theorem parse_enc {L : List Ent} (hG : Good L) (n : Nat) : ∀ (e : Ent), L[n]? = some e → ∀ (f k : Nat) (d r : List UInt8), d.drop k = enc L n ++ r → (enc L n).length < f → parseN f d k = (nodeSh L e.sh, k + (enc L n).length, true) := by
  induction n using Nat.strongRecOn with
  | ind n ih =>
  intro e he f k d r hd hf
  obtain ⟨f, rfl⟩ : ∃ g, f = g + 1 := ⟨f - 1, by omega⟩
  have hs := hG.sh n e he
  have hok := hG.wf.ok n e he
  have hne := enc_ne hG (List.getElem?_eq_some_iff.1 he).1
  have hl := drop_len hd hne
  have hpos := List.length_pos_iff.2 hne
  have hen := hG.enc_eq he
  have hd2 : d.drop k = headL e.sh ++ ((e.sh.args.map (enc L)).flatten ++ r) := by rw [hd, hen, List.append_assoc]
  obtain ⟨h1, h2⟩ := head_at hs hok.s hd2
  have hK : (byteAt d k : Int) - 240 = (e.sh.kind : Int) := by omega
  have hel : (enc L n).length = (headL e.sh).length + ((e.sh.args.map (enc L)).flatten).length := by rw [hen, List.length_append]
  have hm := manyP_at (p := parseN f d) (e.sh.args.map (enc L)) (k + (headL e.sh).length) (drop_more hd2) (fun i k' t r' hi hk' hdk => by
    rw [List.getElem?_map] at hi
    cases ha : e.sh.args[i]? with
    | none => rw [ha] at hi; cases hi
    | some a =>
      rw [ha] at hi
      injection hi with hi
      subst hi
      have hmem := List.mem_of_getElem? ha
      have han := hok.args a hmem
      have hal : a < L.length := by have := (List.getElem?_eq_some_iff.1 he).1; omega
      have hae : L[a]? = some L[a] := List.getElem?_eq_getElem hal
      have hle : (enc L a).length ≤ ((e.sh.args.map (enc L)).flatten).length := by
        have := List.sublist_flatten_of_mem (List.mem_map.2 ⟨a, hmem, rfl⟩ : enc L a ∈ e.sh.args.map (enc L))
        exact this.length_le
      have hh := List.length_pos_iff.2 (GoodSh.head_ne hs)
      rw [ih a han L[a] hae f k' d r' hdk (by omega)])
  rw [List.length_map] at hm
  have hr := right_sh hG hs
  unfold parseN
  rw [if_neg (by omega), hK, h2]
  unfold restP
  simp only
  rw [hm]
  unfold nodeSh at hr ⊢
  rw [if_pos ⟨trivial, rfl, hr⟩]
  rw [hel]
  simp [Nat.add_assoc]
theorem nodeOf_enc {L : List Ent} (hG : Good L) {n : Nat} {e : Ent} (he : L[n]? = some e) : nodeOf (enc L n) = nodeSh L e.sh := by
  have := parse_enc hG n e he ((enc L n).length + 1) 0 (enc L n) [] (by simp) (by omega)
  show (parseN _ _ 0).1 = _
  rw [this]
end Go.Proofs.YtobhpclemmhpoaaGreatDoor

namespace Go.Proofs.YtobhpclemmhpoaaGreatDoor
open Go.RowKit

def insN (L : List Ent) (u : Nat) : List Nat → List Nat
  | [] => [u]
  | y :: r => if ltI L u y = true then u :: y :: r else y :: insN L u r
theorem insN_perm (L : List Ent) (u : Nat) : ∀ l : List Nat, (insN L u l).Perm (l ++ [u])
  | [] => List.Perm.refl _
  | y :: r => by
    unfold insN
    split
    · exact (List.perm_append_singleton u (y :: r)).symm
    · exact (insN_perm L u r).cons y
theorem insN_map {L : List Ent} (hG : Good L) {u : Nat} (hu : kindN L u = 2) : ∀ l : List Nat, (∀ t ∈ l, kindN L t = 2) → (insN L u l).map (enc L) = insL (enc L u) (l.map (enc L))
  | [], _ => rfl
  | y :: r, h => by
    have h1 := less_enc hG hu (h y (by simp))
    have h2 := insN_map hG hu r (fun t ht => h t (by simp [ht]))
    rw [List.map_cons]
    unfold insN insL
    rw [h1]
    split
    · rfl
    · rw [List.map_cons, h2]
theorem all2_of {L : List Ent} (hG : Good L) : ∀ l : List Nat, (∀ t ∈ l, kindN L t = 2) → ∃ m, All2 L l m
  | [], _ => ⟨[], trivial⟩
  | t :: l, h => by
    obtain ⟨a, b, _, _, _, h1⟩ := enc_nonce hG (h t (by simp))
    obtain ⟨m, hm⟩ := all2_of hG l (fun x hx => h x (by simp [hx]))
    exact ⟨_ :: m, h1, hm⟩
theorem lt_trans_no {L : List Ent} (hG : Good L) {a b c : Nat} (ha : kindN L a = 2) (hb : kindN L b = 2) (hc : kindN L c = 2) (h1 : ltI L a b = true) (h2 : ltI L c b = false) : ltI L c a = false := by
  obtain ⟨_, _, _, _, _, na⟩ := enc_nonce hG ha
  obtain ⟨_, _, _, _, _, nb⟩ := enc_nonce hG hb
  obtain ⟨_, _, _, _, _, nc⟩ := enc_nonce hG hc
  have e1 := (na.lt nb).1 h1
  have e2 := nc.lt nb
  have e3 := nc.lt na
  rw [h2] at e2
  cases h : ltI L c a with
  | false => rfl
  | true =>
    have := e3.1 h
    simp only at e1 e2 this
    have h4 : ¬ _ := fun hh => absurd (e2.2 hh) (by simp)
    omega
theorem insN_sorted {L : List Ent} (hG : Good L) {u : Nat} (hu : kindN L u = 2) : ∀ l : List Nat, (∀ t ∈ l, kindN L t = 2) → Sorted L l → Sorted L (insN L u l)
  | [], _, _ => List.pairwise_singleton _ _
  | y :: r, h, hs => by
    have hy := h y (by simp)
    have hr := fun t ht => h t (List.mem_cons_of_mem y ht)
    obtain ⟨h1, h2⟩ := List.pairwise_cons.1 hs
    unfold insN
    split
    · rename_i hlt
      refine List.pairwise_cons.2 ⟨fun t ht => ?_, hs⟩
      rcases List.mem_cons.1 ht with rfl | ht
      · exact lt_trans_no hG hu hy hy hlt (by
          cases hq : ltI L t t with
          | false => rfl
          | true =>
            obtain ⟨_, _, _, _, _, na⟩ := enc_nonce hG hy
            have := (na.lt na).1 hq
            simp only at this
            omega)
      · exact lt_trans_no hG hu hy (hr t ht) hlt (h1 t ht)
    · rename_i hlt
      refine List.pairwise_cons.2 ⟨fun t ht => ?_, insN_sorted hG hu r hr h2⟩
      rcases List.mem_append.1 ((insN_perm L u r).mem_iff.1 ht) with ht | ht
      · exact h1 t ht
      · simp at ht
        subst ht
        exact Bool.eq_false_iff.2 hlt
theorem sorted_one {L : List Ent} (hG : Good L) {l d d' : List Nat} (hk : ∀ t ∈ l, kindN L t = 2) (h1 : d.Perm l) (h2 : d'.Perm l) (s1 : Sorted L d) (s2 : Sorted L d') : d = d' := by
  obtain ⟨m, hm⟩ := all2_of hG l hk
  obtain ⟨m1, p1, a1⟩ := All2.perm h1.symm hm
  obtain ⟨m2, p2, a2⟩ := All2.perm h2.symm hm
  have := pairs_unique (p1.symm.trans p2) (sorted_pairs a1 s1) (sorted_pairs a2 s2)
  subst this
  exact All2.inj hG.wf a1 a2
theorem ints_inj : ∀ {a b : List Nat}, a.map Int.ofNat = b.map Int.ofNat → a = b
  | [], [], _ => rfl
  | [], _ :: _, h => by simp at h
  | _ :: _, [], h => by simp at h
  | x :: a, y :: b, h => by
    rw [List.map_cons, List.map_cons] at h
    injection h with h1 h2
    rw [ints_inj h2, Int.ofNat.inj h1]
theorem tats_map {L : List Ent} : ∀ d : List Nat, (∀ t ∈ d, t < L.length) → TAts L (d.map Int.ofNat) (d.map (enc L))
  | [], _ => .nil
  | t :: d, h => .cons (.inr ⟨t, rfl, h t (by simp), rfl⟩) (tats_map d (fun x hx => h x (by simp [hx])))
theorem exp_same : ExpSame := by
  intro L p q P Q m hG hlen hp hq hm
  have kp := kind_tat hG hp
  have kq := kind_tat hG hq
  unfold ExpTo at hm
  unfold refExpL
  by_cases hc : kindAt L p = 5 ∧ kindAt L q = 2
  · rw [if_pos hc] at hm
    have hP5 : kindL P = 5 := by have := hc.1; omega
    have hQ2 : kindL Q = 2 := by have := hc.2; omega
    rcases hp with ⟨_, rfl⟩ | ⟨n, rfl, hn, rfl⟩
    · simp [kindL] at hP5
    rcases hq with ⟨_, rfl⟩ | ⟨u, rfl, hu, rfl⟩
    · simp [kindL] at hQ2
    obtain ⟨e, he, hm⟩ := hm
    rw [at_nat] at he
    have hs := hG.sh n e he
    have hen := hG.enc_eq he
    have hok := hG.wf.ok n e he
    have hke : e.sh.kind = 5 := by rw [hen, kind_head hs] at hP5; exact hP5
    have hnode := nodeOf_enc hG he
    rw [hnode]
    have hun : kindN L u = 2 := by have := hc.2; rw [kindAt_nat] at this; omega
    generalize e.sh = sh at *
    cases hs with
    | share s l h1 h2 h3 h4 h5 =>
      simp only [nodeSh, List.length_map] at *
      rw [Int.toNat_natCast] at hm
      by_cases h8 : l.length + 1 ≤ 8
      · rw [if_pos h8] at hm
        rw [if_pos ⟨hP5, hQ2, by omega⟩]
        obtain ⟨d, hd1, hd2, rfl⟩ := hm
        have hall : ∀ t ∈ l ++ [u], kindN L t = 2 := fun t ht => by
          rcases List.mem_append.1 ht with ht | ht
          · exact h4 t ht
          · simp at ht; rw [ht]; exact hun
        have hdd := sorted_one hG hall hd1 (insN_perm L u l) hd2 (insN_sorted hG hun l h4 h5)
        have hdk : ∀ t ∈ d, kindN L t = 2 := fun t ht => hall t (hd1.mem_iff.1 ht)
        have hdl : ∀ t ∈ d, t < L.length := fun t ht => (kind_enc hG (hdk t ht) (by omega)).2
        have hlen2 : d.length = l.length + 1 := by rw [hd1.length_eq]; simp
        rw [← insN_map hG hun l h4, ← hdd]
        have h := built_same hG ⟨5, 0, 0, s⟩ (by simp) (by simp) (by simp) (tats_map d hdl) (by simp; omega) hlen (fun d' hd' _ => by
          have : d' = d := ints_inj hd'.symm
          subst this
          exact .share s d' h1 h2 (by omega) hdk hd2) (245 :: (cnt s.data.toList ++ pack4 d.length)) (by simp [cnt_length, pack4, ownOf]; omega) (fun d' hd' => by
          have : d'.length = d.length := by simpa using hd'
          simp [headL, Hd.with, this])
        have hne : ¬ ([] : List UInt8) ∈ d.map (enc L) := by
          intro hx
          obtain ⟨t, ht, h0⟩ := List.mem_map.1 hx
          exact enc_ne hG (hdl t ht) h0
        rw [if_neg hne] at h
        have e1 : refShareL s.data.toList (d.map (enc L)) = fitsL (245 :: (cnt s.data.toList ++ pack4 d.length) ++ (d.map (enc L)).flatten) := by
          simp [refShareL, tagL, cnt]
        rw [e1]
        exact h
      · rw [if_neg h8] at hm
        rw [if_neg (fun hh => by have := hh.2.2; omega), hm]
        exact Same.none hG
    | _ => simp at hke
  · rw [if_neg hc] at hm
    rw [if_neg (fun hh => hc ⟨by rw [kp, hh.1]; rfl, by rw [kq, hh.2.1]; rfl⟩), hm]
    exact Same.none hG
end Go.Proofs.YtobhpclemmhpoaaGreatDoor

namespace Go.Proofs.YtobhpclemmhpoaaGreatDoor
open Go.RowKit

theorem TAt.short {L : List Ent} (hG : Good L) {i : Int} {t : List UInt8} (h : TAt L i t) : t.length ≤ 131072 := by
  rcases h with ⟨_, rfl⟩ | ⟨n, _, hn, rfl⟩
  · simp
  · have he : L[n]? = some L[n] := List.getElem?_eq_getElem hn
    rw [enc_length hG n _ he]
    exact hG.wf.size _ (List.mem_of_getElem? he)
theorem nonce_nine {L : List Ent} (hG : Good L) {t : Nat} (h : kindN L t = 2) : (enc L t).length = 9 := by
  obtain ⟨a, b, _, _, h1, _⟩ := enc_nonce hG h
  rw [h1]; simp [pack4]
theorem TAt.nine {L : List Ent} (hG : Good L) {i : Int} {t : List UInt8} (h : TAt L i t) : t.length ≤ 10000 ∨ kindL t ≠ 2 := by
  by_cases h2 : kindL t = 2
  · left
    rcases h with ⟨_, rfl⟩ | ⟨n, _, hn, rfl⟩
    · simp
    · have he : L[n]? = some L[n] := List.getElem?_eq_getElem hn
      have hk : kindN L n = 2 := by
        rw [hG.enc_eq he, kind_head (hG.sh n _ he)] at h2
        unfold kindN
        rw [he]; exact h2
      rw [nonce_nine hG hk]
      omega
  · exact .inr h2
end Go.Proofs.YtobhpclemmhpoaaGreatDoor

namespace Go.Proofs.YtobhpclemmhpoaaGreatDoor
open Go.RowKit

end Go.Proofs.YtobhpclemmhpoaaGreatDoor
