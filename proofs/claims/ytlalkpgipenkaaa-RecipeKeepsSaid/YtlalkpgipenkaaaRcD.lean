/- Layer 14: what a step makes, in shapes (nothing of the program is run here). -/
import Derived.Test.YtlalkpgipenkaaaRcC
import Derived.Test.YtlalkpgipenkaaaSharePure
namespace Go.Proofs.Ytlalkpgipenkaaa
open Go.RowKit

theorem built_made {L : List Ent} (hG : Good L) (hlen : L.length < 1073741824) (hd : Hd) (hk : hd.kind ≤ 10) (ha : hd.a ≤ 4294967295) (hb : hd.b ≤ 4294967295) (l : List Int) (hm : l.length ≤ 65536)
    (hgs : ∀ d : List Nat, l = d.map Int.ofNat → (∀ t ∈ d, t < L.length) → GoodSh L (hd.with d)) :
    built L hd (ownOf hd.kind) l = (-1, L) ∨ ∃ d : List Nat, l = d.map Int.ofNat ∧ (∀ t ∈ d, t < L.length) ∧ Got L (hd.with d) (built L hd (ownOf hd.kind) l) := by
  by_cases hc : inAll L l = true ∧ ownOf hd.kind + hd.s.size + sizes L l ≤ 131072
  · right
    have hin := inAll_mem hc.1
    have hl : l = (l.map Int.toNat).map Int.ofNat := by
      rw [List.map_map]
      conv => lhs; rw [← List.map_id l]
      refine List.map_congr_left fun t ht => ?_
      have := hin t ht
      simp only [id, Function.comp, Int.ofNat_eq_natCast]
      omega
    have hd2 : ∀ t ∈ l.map Int.toNat, t < L.length := by
      intro t ht
      obtain ⟨i, hi, rfl⟩ := List.mem_map.1 ht
      have := hin i hi
      omega
    refine ⟨l.map Int.toNat, hl, hd2, ?_⟩
    have := built_got hG hd hk ha hb (l := l.map Int.toNat) (by rw [List.length_map]; exact hm) hd2 (hgs _ hl hd2) (by rw [← sizes_ofNat, ← hl]; exact hc.2) hlen
    rw [← hl] at this
    exact this
  · left
    unfold built
    rw [if_neg hc]

/-- Nothing, or a term of such a shape. -/
def MadeOf (L : List Ent) (P : Shp → Prop) (m : Int × List Ent) : Prop := m = (-1, L) ∨ ∃ sh, P sh ∧ Got L sh m
theorem MadeOf.good {L : List Ent} {P : Shp → Prop} {m : Int × List Ent} (h : MadeOf L P m) (hG : Good L) : Good m.2 ∧ L <+: m.2 ∧ m.2.length ≤ L.length + 1 := by
  rcases h with rfl | ⟨sh, _, hg⟩
  · exact ⟨hG, List.prefix_refl _, Nat.le_succ _⟩
  · exact ⟨hg.good, hg.pre, hg.len⟩
theorem nil_of_map {d : List Nat} (h : ([] : List Int) = d.map Int.ofNat) : d = [] := by cases d <;> simp at h ⊢
theorem data_made {L : List Ent} (hG : Good L) (hlen : L.length < 1073741824) (s : ByteArray) : MadeOf L (fun sh => sh = ⟨1, 0, 0, s, []⟩) (dataM L s) := by
  rcases built_made hG hlen ⟨1, 0, 0, s⟩ (by simp) (by simp) (by simp) [] (by simp) (fun d hd _ => by rw [nil_of_map hd]; exact .data _) with h | ⟨d, hd, _, h⟩
  · exact .inl h
  · rw [nil_of_map hd] at h
    exact .inr ⟨_, rfl, h⟩
theorem nonce_made {L : List Ent} (hG : Good L) (hlen : L.length < 1073741824) (x y : Int) : MadeOf L (fun sh => ∃ b, isNum x = true ∧ sh = ⟨2, x.toNat, b, noStr, []⟩) (nonceM L x y) := by
  by_cases h : isNum x = true ∧ isNum y = true
  · exact .inr ⟨_, ⟨_, h.1, rfl⟩, nonce_got hG hlen h.1 h.2⟩
  · exact .inl (nonce_none h)
theorem key_made {L : List Ent} (hG : Good L) (hlen : L.length < 1073741824) (x : Int) : MadeOf L (fun sh => sh = ⟨3, x.toNat, 0, noStr, []⟩) (keyM L x) := by
  unfold keyM
  by_cases hn : isNum x = true
  · rw [if_pos hn]
    have hx := isNum_iff.1 hn
    rcases built_made hG hlen ⟨3, x.toNat, 0, noStr⟩ (by simp) (by simp; omega) (by simp) [] (by simp) (fun d hd _ => by rw [nil_of_map hd]; exact .key _ (by show x.toNat ≤ 2147483647; omega)) with h | ⟨d, hd, _, h⟩
    · exact .inl h
    · rw [nil_of_map hd] at h
      exact .inr ⟨_, rfl, h⟩
  · rw [if_neg hn]; exact .inl rfl
theorem base_made {L : List Ent} (hG : Good L) (hlen : L.length < 1073741824) (s : ByteArray) : MadeOf L (fun sh => sh = ⟨5, 0, 0, s, []⟩) (baseM L s) := by
  by_cases h : 1 ≤ s.size ∧ s.size ≤ 2100
  · exact .inr ⟨_, rfl, base_got hG hlen h.1 h.2⟩
  · exact .inl (base_none h)
theorem one_of_map {x : Int} {d : List Nat} (h : [x] = d.map Int.ofNat) : ∃ n : Nat, d = [n] ∧ x = n := by
  match d, h with
  | [n], h => simp at h; exact ⟨n, rfl, h⟩
theorem two_of_map {x y : Int} {d : List Nat} (h : [x, y] = d.map Int.ofNat) : ∃ n m : Nat, d = [n, m] ∧ x = n ∧ y = m := by
  match d, h with
  | [n, m], h => simp at h; exact ⟨n, m, rfl, h.1, h.2⟩
theorem three_of_map {x y z : Int} {d : List Nat} (h : [x, y, z] = d.map Int.ofNat) : ∃ n m k : Nat, d = [n, m, k] := by
  match d, h with
  | [n, m, k], _ => exact ⟨n, m, k, rfl⟩
theorem kindN_of {L : List Ent} {n : Nat} {k : Nat} (h : kindAt L (n : Int) = (k : Int)) : kindN L n = k := by rw [kindAt_nat] at h; omega
theorem pub_made {L : List Ent} (hG : Good L) (hlen : L.length < 1073741824) (x : Int) : MadeOf L (fun sh => sh.kind = 4) (pubM L x) := by
  unfold pubM
  by_cases hk : kindAt L x = 3
  · rw [if_pos hk]
    rcases built_made hG hlen ⟨4, 0, 0, noStr⟩ (by simp) (by simp) (by simp) [x] (by simp) (fun d hd _ => by
      obtain ⟨n, rfl, rfl⟩ := one_of_map hd
      exact .pub n (kindN_of hk)) with h | ⟨d, hd, _, h⟩
    · exact .inl h
    · exact .inr ⟨_, rfl, h⟩
  · rw [if_neg hk]; exact .inl rfl
theorem sign_made {L : List Ent} (hG : Good L) (hlen : L.length < 1073741824) (s : ByteArray) (x y : Int) : MadeOf L (fun sh => sh.kind = 6) (signM L s x y) := by
  unfold signM
  by_cases hk : (1 ≤ s.size ∧ s.size ≤ 64) ∧ kindAt L x = 3
  · rw [if_pos hk]
    rcases built_made hG hlen ⟨6, 0, 0, s⟩ (by simp) (by simp) (by simp) [x, y] (by simp) (fun d hd ht => by
      obtain ⟨n, m, rfl, rfl, rfl⟩ := two_of_map hd
      exact .sig s n m hk.1.1 hk.1.2 (kindN_of hk.2) (ht m (by simp))) with h | ⟨d, hd, _, h⟩
    · exact .inl h
    · exact .inr ⟨_, rfl, h⟩
  · rw [if_neg hk]; exact .inl rfl
theorem hash_made {L : List Ent} (hG : Good L) (hlen : L.length < 1073741824) (x : Int) : MadeOf L (fun sh => sh.kind = 7 ∧ ∃ n : Nat, x = n ∧ sh.args = [n]) (hashM L x) := by
  rcases built_made hG hlen ⟨7, 0, 0, noStr⟩ (by simp) (by simp) (by simp) [x] (by simp) (fun d hd ht => by
    obtain ⟨n, rfl, rfl⟩ := one_of_map hd
    exact .hash n (ht n (by simp))) with h | ⟨d, hd, _, h⟩
  · exact .inl h
  · obtain ⟨n, rfl, rfl⟩ := one_of_map hd
    exact .inr ⟨_, ⟨rfl, n, rfl, rfl⟩, h⟩
theorem derive_made {L : List Ent} (hG : Good L) (hlen : L.length < 1073741824) (c : Nat) (hc : c ≤ 255) (x y z : Int) : MadeOf L (fun sh => sh.kind = 8) (deriveM L c x y z) := by
  rcases built_made hG hlen ⟨8, 0, c, noStr⟩ (by simp) (by simp) (by simp; omega) [x, y, z] (by simp) (fun d hd ht => by
    obtain ⟨n, m, k, rfl⟩ := three_of_map hd
    exact .derive c n m k hc (ht n (by simp)) (ht m (by simp)) (ht k (by simp))) with h | ⟨d, hd, _, h⟩
  · exact .inl h
  · exact .inr ⟨_, rfl, h⟩
theorem seal_made {L : List Ent} (hG : Good L) (hlen : L.length < 1073741824) (n : Nat) (hn : n ≤ 4294967295) (x y : Int) : MadeOf L (fun sh => ∃ p q : Nat, x = p ∧ y = q ∧ sh = ⟨9, 0, n, noStr, [p, q]⟩) (sealM L x n y) := by
  rcases built_made hG hlen ⟨9, 0, n, noStr⟩ (by simp) (by simp) (by simp; omega) [x, y] (by simp) (fun d hd ht => by
    obtain ⟨a, b, rfl, rfl, rfl⟩ := two_of_map hd
    exact .sealed a n b hn (ht a (by simp)) (ht b (by simp))) with h | ⟨d, hd, _, h⟩
  · exact .inl h
  · obtain ⟨a, b, rfl, rfl, rfl⟩ := two_of_map hd
    exact .inr ⟨_, ⟨a, b, rfl, rfl, rfl⟩, h⟩
theorem list_made {L : List Ent} (hG : Good L) (hlen : L.length < 1073741824) (l : List Int) : MadeOf L (fun sh => ∃ d : List Nat, l = d.map Int.ofNat ∧ sh = ⟨10, 0, 0, noStr, d⟩) (listM L l) := by
  unfold listM
  by_cases hk : l.length ≤ 32
  · rw [if_pos hk]
    rcases built_made hG hlen ⟨10, 0, 0, noStr⟩ (by simp) (by simp) (by simp) l (by omega) (fun d hd ht => .list d (by rw [hd] at hk; simpa using hk) ht) with h | ⟨d, hd, _, h⟩
    · exact .inl h
    · exact .inr ⟨_, ⟨d, hd, rfl⟩, h⟩
  · rw [if_neg hk]; exact .inl rfl
theorem ints_inj2 : ∀ {a b : List Nat}, a.map Int.ofNat = b.map Int.ofNat → a = b
  | [], [], _ => rfl
  | [], _ :: _, h => by simp at h
  | _ :: _, [], h => by simp at h
  | x :: a, y :: b, h => by
    simp only [List.map_cons, List.cons.injEq, Int.ofNat_eq_natCast] at h
    rw [ints_inj2 h.2, show x = y by omega]
theorem exp_made {L : List Ent} (hG : Good L) (hlen : L.length < 1073741824) {x y : Int} {m : Int × List Ent} (h : ExpTo L x y m) : MadeOf L (fun sh => ∃ s d, sh = ⟨5, 0, 0, s, d⟩ ∧ d ≠ []) m := by
  unfold ExpTo at h
  split at h
  · rename_i hk
    obtain ⟨e, he, h⟩ := h
    split at h
    · rename_i hl
      obtain ⟨d, hp, hs, rfl⟩ := h
      obtain ⟨n, rfl, hlt, _⟩ := kindAt_some (L := L) (i := x) (by rw [hk.1]; decide)
      obtain ⟨xn, rfl, hlt2, _⟩ := kindAt_some (L := L) (i := y) (by rw [hk.2]; decide)
      rw [at_nat] at he
      have hgs := hG.sh n e he
      have hke : e.sh.kind = 5 := by
        have := kindN_of (k := 5) hk.1
        unfold kindN at this
        rw [he] at this
        simpa using this
      obtain ⟨sh, z⟩ := e
      simp only at hgs hke hp hl ⊢
      cases hgs with
      | share s l h1 h2 h3 h4 h5 =>
        have hdk : ∀ t ∈ d, kindN L t = 2 := fun t ht => by
          have := hp.mem_iff.1 ht
          rcases List.mem_append.1 this with h | h
          · exact h4 t h
          · simp at h; rw [h]; exact kindN_of hk.2
        rcases built_made hG hlen ⟨5, 0, 0, s⟩ (by simp) (by simp) (by simp) (d.map Int.ofNat) (by rw [List.length_map, hp.length_eq]; simp at hl ⊢; omega) (fun d2 hd2 _ => by
          have : d2 = d := (ints_inj2 hd2).symm
          subst this
          exact .share s d2 h1 h2 (by rw [hp.length_eq]; simp at hl ⊢; omega) hdk hs) with h | ⟨d2, hd2, _, h⟩
        · exact .inl h
        · exact .inr ⟨_, ⟨_, _, rfl, by
            have : d2 = d := (ints_inj2 hd2).symm
            subst this
            intro e
            have := hp.length_eq
            rw [e] at this
            simp at this⟩, h⟩
      | _ => simp at hke
    · exact .inl h
  · exact .inl h
end Go.Proofs.Ytlalkpgipenkaaa
