/- Layer 14: no step makes a secret key or another one's nonce (nothing of the program is run here). -/
import Derived.Test.YtlalkpgipenkaaaRcE
namespace Go.Proofs.Ytlalkpgipenkaaa
open Go.RowKit

/-- A secret key, or another one's nonce. -/
def Bad (L : List Ent) (p : Nat) : Prop := ∃ e, L[p]? = some e ∧ (e.sh.kind = 3 ∨ (e.sh.kind = 2 ∧ e.sh.a ≠ 0))
theorem pre_at {L L' : List Ent} (h : L <+: L') {i : Nat} {e : Ent} (he : L[i]? = some e) : L'[i]? = some e := by
  obtain ⟨t, rfl⟩ := h
  rw [List.getElem?_append_left (List.getElem?_eq_some_iff.1 he).1]
  exact he
theorem Bad.mono {L L' : List Ent} (h : L <+: L') {p : Nat} (hb : Bad L p) : Bad L' p := by
  obtain ⟨e, he, hk⟩ := hb
  exact ⟨e, pre_at h he, hk⟩
def p256S : ByteArray := ⟨#[112, 50, 53, 54]⟩
/-- A term that may come to be known: H is what is hidden; G: a base was asked for. -/
inductive Safe (H : Int) (G : Prop) (L : List Ent) : Nat → Prop
  | mk (i : Nat) (e : Ent) (he : L[i]? = some e) (h3 : e.sh.kind ≠ 3) (h2 : e.sh.kind = 2 → e.sh.a = 0) (hH : (i : Int) ≠ H) (h5 : e.sh.kind = 5 → e.sh.s = p256S → e.sh.args = [] → G)
      (h9 : e.sh.kind = 9 → ∀ p q, e.sh.args = [p, q] → ¬ Bad L p → Safe H G L q) (h10 : e.sh.kind = 10 → ∀ t, t ∈ e.sh.args → Safe H G L t) : Safe H G L i
theorem Safe.mono {H : Int} {G G' : Prop} {L L' : List Ent} (hp : L <+: L') (hg : G → G') {i : Nat} (h : Safe H G L i) : Safe H G' L' i := by
  induction h with
  | mk i e he h3 h2 hH h5 h9 h10 ih9 ih10 =>
    exact .mk i e (pre_at hp he) h3 h2 hH (fun a b c => hg (h5 a b c)) (fun k p q hpq hb => ih9 k p q hpq fun hB => hb (hB.mono hp)) (fun k t ht => ih10 k t ht)
def SafeZ (H : Int) (G : Prop) (L : List Ent) (x : Int) : Prop := x = -1 ∨ ∃ i : Nat, x = i ∧ Safe H G L i
theorem SafeZ.mono {H : Int} {G G' : Prop} {L L' : List Ent} (hp : L <+: L') (hg : G → G') {x : Int} (h : SafeZ H G L x) : SafeZ H G' L' x :=
  h.imp_right fun ⟨i, h1, h2⟩ => ⟨i, h1, h2.mono hp hg⟩
theorem Safe.good {H : Int} {G : Prop} {L : List Ent} {i : Nat} (h : Safe H G L i) : ¬ Bad L i := by
  cases h with
  | mk i e he h3 h2 hH h5 h9 h10 =>
    rintro ⟨e', he', hk⟩
    rw [he] at he'
    injection he' with he'
    subst he'
    rcases hk with hk | hk
    · exact h3 hk
    · exact hk.2 (h2 hk.1)
/-- The hidden text's term, if it was made. -/
def HidAt (H : Int) (hs : ByteArray) (L : List Ent) : Prop := H = -1 ∨ ∃ (n : Nat) (e : Ent), H = n ∧ L[n]? = some e ∧ e.sh = ⟨1, 0, 0, hs, []⟩
theorem HidAt.mono {H : Int} {hs : ByteArray} {L L' : List Ent} (h : HidAt H hs L) (hp : L <+: L') : HidAt H hs L' := h.imp_right fun ⟨n, e, h1, h2, h3⟩ => ⟨n, e, h1, pre_at hp h2, h3⟩
theorem safe_new {H : Int} {G : Prop} {hs : ByteArray} {L : List Ent} {sh : Shp} {m : Int × List Ent} (hg : Got L sh m) (hH : HidAt H hs L) (hne : sh ≠ ⟨1, 0, 0, hs, []⟩) (h3 : sh.kind ≠ 3) (h2 : sh.kind = 2 → sh.a = 0) (h5 : sh.kind = 5 → sh.s = p256S → sh.args = [] → G)
    (h9 : sh.kind = 9 → ∀ p q, sh.args = [p, q] → ¬ Bad L p → Safe H G L q) (h10 : sh.kind = 10 → ∀ t, t ∈ sh.args → Safe H G L t) : SafeZ H G m.2 m.1 := by
  obtain ⟨n, e, h1, he, rfl, _⟩ := hg.at_
  refine .inr ⟨n, h1, .mk n e he h3 h2 ?_ h5 (fun k p q hpq hb => (h9 k p q hpq fun hB => hb (hB.mono hg.pre)).mono hg.pre id) fun k t ht => (h10 k t ht).mono hg.pre id⟩
  rcases hH.mono hg.pre with hH | ⟨n', e', hn, he', hsh⟩
  · omega
  · intro heq
    have : n' = n := by omega
    subst this
    rw [he] at he'
    injection he' with he'
    subst he'
    exact hne hsh
theorem atZ_safe {H : Int} {G : Prop} {L : List Ent} {l : List Int} (h : ∀ x ∈ l, SafeZ H G L x) (i : Int) : SafeZ H G L (atZ l i) := by
  unfold atZ
  split
  · rename_i hi
    have hlt : i.toNat < l.length := by omega
    rw [List.getD_eq_getElem?_getD, List.getElem?_eq_getElem hlt]
    exact h _ (List.getElem_mem hlt)
  · exact .inl rfl
theorem givenZ_safe {H : Int} {G : Prop} {L : List Ent} {l : List Int} (had : Int) (h : ∀ x ∈ l, SafeZ H G L x) (i : Int) : SafeZ H G L (givenZ had l i) := by
  unfold givenZ
  split
  · exact .inl rfl
  · exact atZ_safe h i
theorem SafeZ.nat {H : Int} {G : Prop} {L : List Ent} {n : Nat} (h : SafeZ H G L (n : Int)) : Safe H G L n := by
  rcases h with h | ⟨i, hi, h⟩
  · omega
  · have : i = n := by omega
    subst this
    exact h
theorem openM_safe {H : Int} {G : Prop} {L : List Ent} {x y : Int} (hx : SafeZ H G L x) (hy : SafeZ H G L y) : SafeZ H G L (openM L x y) := by
  unfold openM
  split
  · rename_i hk
    obtain ⟨n, rfl, hlt, hkn⟩ := kindAt_some (by rw [hk]; decide)
    cases hx.nat with
    | mk _ e he h3 h2 hH h5 h9 h10 =>
      rw [argsAt_some he]
      have hke : e.sh.kind = 9 := by
        rw [List.getElem?_eq_getElem hlt] at he
        injection he with he
        rw [he] at hkn
        omega
      unfold pairOpen
      split
      · rename_i p q hpq
        split
        · rename_i hpy
          rw [← hpy] at hy
          exact .inr ⟨q, rfl, h9 hke p q hpq hy.nat.good⟩
        · exact .inl rfl
      · exact .inl rfl
  · exact .inl rfl
theorem list_safe {H : Int} {G : Prop} {L : List Ent} {x : Int} (hx : SafeZ H G L x) (hk : kindAt L x = 10) : ∀ t ∈ (argsAt L x).map Int.ofNat, SafeZ H G L t := by
  obtain ⟨n, rfl, hlt, hkn⟩ := kindAt_some (by rw [hk]; decide)
  cases hx.nat with
  | mk _ e he h3 h2 hH h5 h9 h10 =>
    rw [argsAt_some he]
    have hke : e.sh.kind = 10 := by
      rw [List.getElem?_eq_getElem hlt] at he
      injection he with he
      rw [he] at hkn
      omega
    intro t ht
    obtain ⟨j, hj, rfl⟩ := List.mem_map.1 ht
    exact .inr ⟨j, rfl, h10 hke j hj⟩
theorem listM_safe {H : Int} {G : Prop} {hs : ByteArray} {L : List Ent} (hG : Good L) (hlen : L.length < 1073741824) (hH : HidAt H hs L) {l : List Int} (hl : ∀ x ∈ l, SafeZ H G L x) : SafeZ H G (listM L l).2 (listM L l).1 := by
  rcases list_made hG hlen l with h | ⟨sh, ⟨d, hd, rfl⟩, h⟩
  · rw [h]; exact .inl rfl
  · refine safe_new h hH (by simp) (by simp) (by simp) (by simp) (by simp) (fun _ t ht => ?_)
    exact (hl t (by rw [hd]; exact List.mem_map.2 ⟨t, ht, rfl⟩)).nat
theorem sealM_safe {H : Int} {G : Prop} {hs : ByteArray} {L : List Ent} (hG : Good L) (hlen : L.length < 1073741824) (hH : HidAt H hs L) {x y : Int} (n : Nat) (hn : n ≤ 4294967295) (hy : ∀ p : Nat, x = p → ¬ Bad L p → SafeZ H G L y) : SafeZ H G (sealM L x n y).2 (sealM L x n y).1 := by
  rcases seal_made hG hlen n hn x y with h | ⟨sh, ⟨p, q, rfl, rfl, rfl⟩, h⟩
  · rw [h]; exact .inl rfl
  · refine safe_new h hH (by simp) (by simp) (by simp) (by simp) (fun _ p' q' hpq hb => ?_) (by simp)
    simp only [List.cons.injEq, and_true] at hpq
    obtain ⟨rfl, rfl⟩ := hpq
    exact (hy p rfl hb).nat

theorem made_safe {H : Int} {G : Prop} {hs : ByteArray} {L : List Ent} {P : Shp → Prop} {m : Int × List Ent} (h : MadeOf L P m) (hH : HidAt H hs L) (hP : ∀ sh, P sh → sh ≠ ⟨1, 0, 0, hs, []⟩ ∧ sh.kind ≠ 3 ∧ (sh.kind = 2 → sh.a = 0) ∧ (sh.kind = 5 → sh.s = p256S → sh.args = [] → G) ∧ sh.kind ≠ 9 ∧ sh.kind ≠ 10) : SafeZ H G m.2 m.1 := by
  rcases h with rfl | ⟨sh, hp, hg⟩
  · exact .inl rfl
  · obtain ⟨h1, h3, h2, h5, h9, h10⟩ := hP sh hp
    exact safe_new hg hH h1 h3 h2 h5 (fun h => absurd h h9) (fun h => absurd h h10)
theorem kind_ne {sh : Shp} {hs : ByteArray} (h : sh.kind ≠ 1) : sh ≠ ⟨1, 0, 0, hs, []⟩ := by rintro rfl; exact h rfl
theorem made_safe_kind {H : Int} {G : Prop} {hs : ByteArray} {L : List Ent} {P : Shp → Prop} {m : Int × List Ent} (h : MadeOf L P m) (hH : HidAt H hs L) (k : Nat) (hk : k = 4 ∨ k = 6 ∨ k = 7 ∨ k = 8) (hP : ∀ sh, P sh → sh.kind = k) : SafeZ H G m.2 m.1 :=
  made_safe h hH fun sh hp => by
    have := hP sh hp
    exact ⟨kind_ne (by omega), by omega, by omega, by omega, by omega, by omega⟩

theorem ResTo.safe {H : Int} {G : Prop} {hs : ByteArray} {L : List Ent} {had : Int} {known sent rs : List Int} {o : OpR} {m : Int × List Ent} (hG : Good L) (hlen : L.length < 1073741824) (hH : HidAt H hs L) (h : ResTo L had known sent rs o m)
    (hk : ∀ x ∈ known, SafeZ H G L x) (hs' : ∀ x ∈ sent, SafeZ H G L x) (hr : ∀ x ∈ rs, SafeZ H G L x) (hb : o.kind = 4 → G) (hd : o.kind = 0 → bs o.s ≠ hs) : SafeZ H G m.2 m.1 := by
  by_cases k0 : o.kind = 0
  · rw [ResTo.k0 k0] at h; subst h
    exact made_safe (data_made hG hlen _) hH fun sh e => by
      subst e
      exact ⟨fun e => hd k0 (by injection e), by simp, by simp, by simp, by simp, by simp⟩
  by_cases k1 : o.kind = 1
  · rw [ResTo.k1 k1] at h; subst h
    exact made_safe (nonce_made hG hlen _ _) hH fun sh ⟨b, _, e⟩ => by subst e; exact ⟨by simp, by simp, by simp, by simp, by simp, by simp⟩
  by_cases k2 : o.kind = 2
  · rw [ResTo.k2 k2] at h; subst h; exact givenZ_safe had hk o.a
  by_cases k3 : o.kind = 3
  · rw [ResTo.k3 k3] at h; subst h; exact givenZ_safe had hs' o.a
  by_cases k4 : o.kind = 4
  · rw [ResTo.k4 k4] at h; subst h
    exact made_safe (base_made hG hlen _) hH fun sh e => by subst e; exact ⟨by simp, by simp, by simp, fun _ _ _ => hb k4, by simp, by simp⟩
  by_cases k5 : o.kind = 5
  · rw [ResTo.k5 k5] at h
    exact made_safe (exp_made hG hlen h) hH fun sh ⟨s, d, e, hne⟩ => by subst e; exact ⟨by simp, by simp, by simp, fun _ _ hn => absurd hn hne, by simp, by simp⟩
  by_cases k6 : o.kind = 6
  · rw [ResTo.k6 k6] at h; subst h; exact made_safe_kind (pub_made hG hlen _) hH 4 (by omega) fun _ h => h
  by_cases k7 : o.kind = 7
  · rw [ResTo.k7 k7] at h; subst h; exact made_safe_kind (sign_made hG hlen _ _ _) hH 6 (by omega) fun _ h => h
  by_cases k8 : o.kind = 8
  · rw [ResTo.k8 k8] at h; subst h; exact made_safe_kind (hash_made hG hlen _) hH 7 (by omega) fun _ h => h.1
  by_cases k9 : o.kind = 9
  · rw [ResTo.k9 k9] at h; subst h
    unfold deriveO
    split
    · exact .inl rfl
    · rename_i ch r _
      exact made_safe_kind (derive_made hG hlen ch.toNat (by have := UInt8.toNat_lt ch; omega) _ _ _) hH 8 (by omega) fun _ h => h
  by_cases k10 : o.kind = 10
  · rw [ResTo.k10 k10] at h; subst h
    unfold sealO
    split
    · exact .inl rfl
    · exact sealM_safe hG hlen hH _ (by omega) fun _ _ _ => atZ_safe hr o.b
  by_cases k11 : o.kind = 11
  · rw [ResTo.k11 k11] at h; subst h; exact openM_safe (atZ_safe hr o.a) (atZ_safe hr o.b)
  by_cases k12 : o.kind = 12
  · rw [ResTo.k12 k12] at h; subst h; exact listM_safe hG hlen hH (by simp)
  by_cases k13 : o.kind = 13
  · rw [ResTo.k13 k13] at h; subst h
    unfold addM
    split
    · rename_i hk10
      refine listM_safe hG hlen hH fun t ht => ?_
      rcases List.mem_append.1 ht with ht | ht
      · exact list_safe (atZ_safe hr o.a) hk10 t ht
      · rw [List.mem_singleton.1 ht]; exact atZ_safe hr o.b
    · exact .inl rfl
  by_cases k14 : o.kind = 14
  · rw [ResTo.k14 k14] at h; subst h
    show SafeZ H G L (elemM L (atZ rs o.a) o.b)
    unfold elemM
    split
    · rename_i hk10
      exact atZ_safe (list_safe (atZ_safe hr o.a) hk10) o.b
    · exact .inl rfl
  rw [ResTo.more (by omega)] at h
  subst h
  exact .inl rfl
end Go.Proofs.Ytlalkpgipenkaaa
