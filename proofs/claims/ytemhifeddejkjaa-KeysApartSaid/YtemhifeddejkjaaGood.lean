/- What an arena of the constructors' own making looks like; nothing of the program is run here. -/
import Derived.Test.YtemhifeddejkjaaMake
import Derived.Test.YtemhifeddejkjaaExp
namespace Go.Proofs.Ytemhifeddejkjaa
open Go.RowKit

def kindN (L : List Ent) (t : Nat) : Nat := (L[t]?.map (·.sh.kind)).getD 0
theorem kindAt_nat (L : List Ent) (t : Nat) : kindAt L (t : Int) = (kindN L t : Int) := by
  unfold kindAt kindN
  rw [at_nat]
  cases L[t]? <;> rfl
theorem kindN_pre {L L' : List Ent} {t : Nat} (h : L <+: L') (ht : t < L.length) : kindN L' t = kindN L t := by
  obtain ⟨M, rfl⟩ := h
  simp [kindN, List.getElem?_append_left ht]
theorem kindN_lt {L : List Ent} {t : Nat} (h : kindN L t ≠ 0) : t < L.length := by
  rcases Nat.lt_or_ge t L.length with h1 | h1
  · exact h1
  · simp [kindN, List.getElem?_eq_none h1] at h
def sizeN (L : List Ent) (t : Nat) : Nat := (L[t]?.map (·.size)).getD 0
theorem sizeN_pre {L L' : List Ent} {t : Nat} (h : L <+: L') (ht : t < L.length) : sizeN L' t = sizeN L t := by
  obtain ⟨M, rfl⟩ := h
  simp [sizeN, List.getElem?_append_left ht]
def sumN (L : List Ent) (l : List Nat) : Nat := (l.map (sizeN L)).sum
theorem sumN_pre {L L' : List Ent} (h : L <+: L') {l : List Nat} (hl : ∀ t ∈ l, t < L.length) : sumN L' l = sumN L l := by
  unfold sumN
  rw [List.map_congr_left fun t ht => sizeN_pre h (hl t ht)]
theorem sizes_ofNat (L : List Ent) (l : List Nat) : sizes L (l.map Int.ofNat) = sumN L l := by
  unfold sizes sumN
  rw [List.map_map]
  congr 1
  refine List.map_congr_left fun t _ => ?_
  simp only [Function.comp, Int.ofNat_eq_natCast]
  unfold sizeAt sizeN
  rw [at_nat]
  cases L[t]? <;> simp

theorem ltI_pre {L L' : List Ent} (h : L <+: L') {i j : Nat} (hi : i < L.length) (hj : j < L.length) : ltI L' i j = ltI L i j := by
  obtain ⟨M, rfl⟩ := h
  simp [ltI, List.getElem?_append_left hi, List.getElem?_append_left hj]
theorem Sorted.pre {L L' : List Ent} (h : L <+: L') {d : List Nat} (hs : Sorted L d) (hd : ∀ t ∈ d, t < L.length) : Sorted L' d :=
  List.Pairwise.imp_of_mem (fun {a b} ha hb hab => by rw [ltI_pre h (hd b hb) (hd a ha)]; exact hab) hs

/-- The shapes that the constructors make. -/
inductive GoodSh (L : List Ent) : Shp → Prop
  | data (s : ByteArray) : GoodSh L ⟨1, 0, 0, s, []⟩
  | nonce (a b : Nat) : a ≤ 2147483647 → b ≤ 2147483647 → GoodSh L ⟨2, a, b, noStr, []⟩
  | key (a : Nat) : a ≤ 2147483647 → GoodSh L ⟨3, a, 0, noStr, []⟩
  | pub (k : Nat) : kindN L k = 3 → GoodSh L ⟨4, 0, 0, noStr, [k]⟩
  | share (s : ByteArray) (l : List Nat) : 1 ≤ s.size → s.size ≤ 2100 → l.length ≤ 8 → (∀ t ∈ l, kindN L t = 2) → Sorted L l → GoodSh L ⟨5, 0, 0, s, l⟩
  | sig (s : ByteArray) (k t : Nat) : 1 ≤ s.size → s.size ≤ 64 → kindN L k = 3 → t < L.length → GoodSh L ⟨6, 0, 0, s, [k, t]⟩
  | hash (t : Nat) : t < L.length → GoodSh L ⟨7, 0, 0, noStr, [t]⟩
  | derive (c x y z : Nat) : c ≤ 255 → x < L.length → y < L.length → z < L.length → GoodSh L ⟨8, 0, c, noStr, [x, y, z]⟩
  | sealed (k n t : Nat) : n ≤ 4294967295 → k < L.length → t < L.length → GoodSh L ⟨9, 0, n, noStr, [k, t]⟩
  | list (l : List Nat) : l.length ≤ 32 → (∀ t ∈ l, t < L.length) → GoodSh L ⟨10, 0, 0, noStr, l⟩

theorem GoodSh.pre {L L' : List Ent} {sh : Shp} (h : GoodSh L sh) (hp : L <+: L') : GoodSh L' sh := by
  have hl := hp.length_le
  have hk : ∀ {t k : Nat}, kindN L t = k + 1 → kindN L' t = k + 1 := fun {t k} hk => by rw [kindN_pre hp (kindN_lt (by omega)), hk]
  cases h with
  | data s => exact .data s
  | nonce a b h1 h2 => exact .nonce a b h1 h2
  | key a h1 => exact .key a h1
  | pub k h1 => exact .pub k (hk h1)
  | share s l h1 h2 h3 h4 h5 => exact .share s l h1 h2 h3 (fun t ht => hk (h4 t ht)) (h5.pre hp fun t ht => kindN_lt (by rw [h4 t ht]; omega))
  | sig s k t h1 h2 h3 h4 => exact .sig s k t h1 h2 (hk h3) (by omega)
  | hash t h1 => exact .hash t (by omega)
  | derive c x y z h1 h2 h3 h4 => exact .derive c x y z h1 (by omega) (by omega) (by omega)
  | sealed k n t h1 h2 h3 => exact .sealed k n t h1 (by omega) (by omega)
  | list l h1 h2 => exact .list l h1 fun t ht => by have := h2 t ht; omega

def ownOf : Nat → Nat
  | 1 => 5 | 2 => 9 | 3 => 5 | 4 => 1 | 5 => 9 | 6 => 5 | 7 => 1 | 8 => 2 | 9 => 5 | 10 => 5 | _ => 0

structure Good (L : List Ent) : Prop where
  wf : Wf L
  sh : ∀ (i : Nat) (e : Ent), L[i]? = some e → GoodSh L e.sh
  size : ∀ (i : Nat) (e : Ent), L[i]? = some e → e.size = ownOf e.sh.kind + e.sh.s.size + sumN L e.sh.args

theorem Good.nil : Good [] := ⟨⟨by simp, by simp, by simp, by simp⟩, by simp, by simp⟩

theorem found_pre (L : List Ent) (e : Ent) : L <+: (found L e).2 := by
  unfold found
  split
  · exact List.prefix_refl _
  · exact List.prefix_append _ _
theorem found_at (L : List Ent) (e : Ent) : ∃ x, (found L e).2[(found L e).1]? = some x ∧ x.sh = e.sh := by
  unfold found
  cases hx : idx L e.sh with
  | some i => exact idx_some hx
  | none => exact ⟨e, by simp, rfl⟩

theorem Good.push {L : List Ent} (h : Good L) {e : Ent} (hn : idx L e.sh = none) (hok : e.sh.Ok L.length) (hsh : GoodSh L e.sh) (hsz : e.size = ownOf e.sh.kind + e.sh.s.size + sumN L e.sh.args) (hle : e.size ≤ 131072) (hlen : L.length < 1073741824) : Good (L ++ [e]) := by
  have hp : L <+: L ++ [e] := List.prefix_append _ _
  have hcase : ∀ (i : Nat) (x : Ent), (L ++ [e])[i]? = some x → L[i]? = some x ∨ (i = L.length ∧ x = e) := by
    intro i x hx
    rw [List.getElem?_append] at hx
    split at hx
    · exact .inl hx
    · have h0 := (List.getElem?_eq_some_iff.1 hx).1
      have h0 : i - L.length = 0 := by simpa using h0
      rw [h0] at hx
      simp at hx
      exact .inr ⟨by omega, hx.symm⟩
  refine ⟨⟨fun i x hx => ?_, fun x hx => ?_, ?_, by simp; omega⟩, fun i x hx => ?_, fun i x hx => ?_⟩
  · rcases hcase i x hx with hx | ⟨rfl, rfl⟩
    · exact h.wf.ok i x hx
    · exact hok
  · rcases List.mem_append.1 hx with hx | hx
    · exact h.wf.size x hx
    · simp at hx; subst hx; exact hle
  · rw [List.map_append, List.nodup_append]
    refine ⟨h.wf.apart, by simp, ?_⟩
    intro a ha b hb
    simp at hb
    subst hb
    rintro rfl
    obtain ⟨x, hx, hxs⟩ := List.mem_map.1 ha
    exact idx_none hn x hx hxs
  · rcases hcase i x hx with hx | ⟨rfl, rfl⟩
    · exact (h.sh i x hx).pre hp
    · exact hsh.pre hp
  · rcases hcase i x hx with hx | ⟨rfl, rfl⟩
    · have hi := (List.getElem?_eq_some_iff.1 hx).1
      rw [sumN_pre hp fun t ht => by have := (h.wf.ok i x hx).args t ht; omega]
      exact h.size i x hx
    · rw [sumN_pre hp fun t ht => hok.args t ht]
      exact hsz

/-- What a successful call of build comes to. -/
structure Got (L : List Ent) (sh : Shp) (m : Int × List Ent) : Prop where
  good : Good m.2
  pre : L <+: m.2
  at_ : ∃ (n : Nat) (e : Ent), m.1 = n ∧ m.2[n]? = some e ∧ e.sh = sh ∧ (m.2 = L ∨ (m.2 = L ++ [e] ∧ n = L.length))

theorem built_got {L : List Ent} (h : Good L) (hd : Hd) (hk : hd.kind ≤ 10) (ha : hd.a ≤ 4294967295) (hb : hd.b ≤ 4294967295) {l : List Nat} (hm : l.length ≤ 65536) (hl : ∀ t ∈ l, t < L.length) (hsh : GoodSh L (hd.with l))
    (hsz : ownOf hd.kind + hd.s.size + sumN L l ≤ 131072) (hlen : L.length < 1073741824) : Got L (hd.with l) (built L hd (ownOf hd.kind) (l.map Int.ofNat)) := by
  have hin : inAll L (l.map Int.ofNat) = true := by
    simp only [inAll, List.all_map, List.all_eq_true]
    intro t ht
    have := hl t ht
    simp; omega
  have hl2 : (l.map Int.ofNat).map Int.toNat = l := by
    rw [List.map_map]
    exact (List.map_congr_left (fun t _ => by simp)).trans (List.map_id l)
  unfold built
  rw [sizes_ofNat, if_pos ⟨hin, hsz⟩, hl2]
  obtain ⟨e, he⟩ : ∃ e : Ent, e = ⟨hd.with l, ownOf hd.kind + hd.s.size + sumN L l⟩ := ⟨_, rfl⟩
  rw [← he]
  have hok : (hd.with l).Ok L.length := ⟨hk, ha, hb, by show hd.s.size ≤ 131072; omega, hl, hm⟩
  unfold found
  cases hx : idx L e.sh with
  | some i =>
    obtain ⟨x, hx1, hx2⟩ := idx_some hx
    exact ⟨h, List.prefix_refl _, i, x, rfl, hx1, by rw [hx2, he], .inl rfl⟩
  | none =>
    refine ⟨h.push hx (by rw [he]; exact hok) (by rw [he]; exact hsh) (by rw [he]; rfl) (by rw [he]; exact hsz) hlen, List.prefix_append _ _, L.length, e, rfl, by simp, by rw [he], .inr ⟨rfl, rfl⟩⟩
end Go.Proofs.Ytemhifeddejkjaa
