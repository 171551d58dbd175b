/- What the harness makes, beside its texts. -/
import Derived.Test.YtemhifeddejkjaaMost
import Derived.Test.YtemhifeddejkjaaMade6
namespace Go.Proofs.Ytemhifeddejkjaa
open Go.RowKit

/-- The terms that were made, each beside its text. -/
structure Paired (L : List Ent) (ids : List Int) (texts : List (List UInt8)) : Prop where
  len : ids.length = texts.length
  at_ : ∀ (k : Nat) (i : Int) (t : List UInt8), ids[k]? = some i → texts[k]? = some t → TAt L i t
theorem Paired.pick {L : List Ent} {ids : List Int} {texts : List (List UInt8)} (h : Paired L ids texts) (i : Int) : TAt L (pickP ids texts i).1 (pickP ids texts i).2 := by
  unfold pickP
  split
  · rename_i hh
    have hk : i.toNat < ids.length := by omega
    have hkt : i.toNat < texts.length := by rw [← h.len]; exact hk
    refine h.at_ i.toNat _ _ ?_ ?_
    · simp [List.getD, hk]
    · simp [List.getD, hkt]
  · exact .inl ⟨rfl, rfl⟩
theorem Paired.pre {L M : List Ent} {ids : List Int} {texts : List (List UInt8)} (h : Paired L ids texts) (hG : Good M) (hp : L <+: M) : Paired M ids texts :=
  ⟨h.len, fun k i t h1 h2 => (h.at_ k i t h1 h2).pre hG hp⟩
theorem Paired.snoc {L : List Ent} {ids : List Int} {texts : List (List UInt8)} (h : Paired L ids texts) {i : Int} {t : List UInt8} (ht : TAt L i t) : Paired L (ids ++ [i]) (texts ++ [t]) := by
  refine ⟨by simp [h.len], fun k j u h1 h2 => ?_⟩
  by_cases hk : k < ids.length
  · rw [List.getElem?_append_left hk] at h1
    rw [List.getElem?_append_left (by rw [← h.len]; exact hk)] at h2
    exact h.at_ k j u h1 h2
  · rw [List.getElem?_append_right (by omega)] at h1
    rw [List.getElem?_append_right (by rw [← h.len]; omega), ← h.len] at h2
    have h0 : k - ids.length = 0 := by
      have := (List.getElem?_eq_some_iff.1 h1).1
      simpa using this
    rw [h0] at h1 h2
    simp at h1 h2
    rw [← h1, ← h2]
    exact ht
theorem Paired.run {L : List Ent} {ids : List Int} {texts : List (List UInt8)} (h : Paired L ids texts) (f m : Int) : TAts L (runP ids ids.length f m) (runP texts ids.length f m) := by
  refine tats_of _ _ ?_ ?_
  · unfold runP
    simp [h.len]
  · intro k i t h1 h2
    unfold runP at h1 h2
    rw [List.getElem?_take] at h1 h2
    split at h1
    · rename_i hk
      rw [if_pos hk, List.getElem?_drop] at h2
      rw [List.getElem?_drop] at h1
      exact h.at_ _ i t h1 h2
    · cases h1

theorem step_same (hx : ExpSame) {L : List Ent} (hG : Good L) (hlen : L.length < 1073741824) {ids : List Int} {texts : List (List UInt8)} (hp : Paired L ids texts) (x : MakeR) {m : Int × List Ent} (hm : IdTo L ids texts x m) : Same L m (mtextP ids texts x) := by
  unfold IdTo at hm
  unfold mtextP
  have pa := hp.pick x.a
  have pb := hp.pick x.b
  have pc := hp.pick x.c
  by_cases h1 : x.kind = 1
  · rw [if_pos h1] at hm ⊢; rw [hm]; exact data_same hG hlen _
  rw [if_neg h1] at hm ⊢
  by_cases h2 : x.kind = 2
  · rw [if_pos h2] at hm ⊢; rw [hm]; exact nonce_same hG hlen _ _
  rw [if_neg h2] at hm ⊢
  by_cases h3 : x.kind = 3
  · rw [if_pos h3] at hm ⊢; rw [hm]; exact key_same hG hlen _
  rw [if_neg h3] at hm ⊢
  by_cases h4 : x.kind = 4
  · rw [if_pos h4] at hm ⊢; rw [hm]; exact pub_same hG hlen pa
  rw [if_neg h4] at hm ⊢
  by_cases h5 : x.kind = 5
  · rw [if_pos h5] at hm ⊢
    by_cases ha : x.a < 0
    · rw [if_pos ha] at hm ⊢; rw [hm]; exact base_same hG hlen _
    · rw [if_neg ha] at hm ⊢; exact hx L _ _ _ _ m hG hlen pa pb hm
  rw [if_neg h5] at hm ⊢
  by_cases h6 : x.kind = 6
  · rw [if_pos h6] at hm ⊢; rw [hm]; exact sign_same hG hlen _ pa pb
  rw [if_neg h6] at hm ⊢
  by_cases h7 : x.kind = 7
  · rw [if_pos h7] at hm ⊢; rw [hm]; exact hash_same hG hlen pa
  rw [if_neg h7] at hm ⊢
  by_cases h8 : x.kind = 8
  · rw [if_pos h8] at hm ⊢; rw [hm]; exact derive_same hG hlen _ pa pb pc
  rw [if_neg h8] at hm ⊢
  by_cases h9 : x.kind = 9
  · rw [if_pos h9] at hm ⊢; rw [hm]; exact seal_same hG hlen _ (by omega) pa pb
  rw [if_neg h9] at hm ⊢
  by_cases h10 : x.kind = 10
  · rw [if_pos h10] at hm ⊢; rw [hm]; exact list_same hG hlen (hp.run _ _)
  rw [if_neg h10] at hm ⊢
  rw [hm]
  exact Same.none hG
/-- What holds of all that was made. -/
structure AllMade (n : Nat) (L : List Ent) (ids : List Int) (texts : List (List UInt8)) : Prop where
  good : Good L
  few : L.length ≤ n
  pairs : Paired L ids texts
theorem MadeTo.all (hx : ExpSame) {xs : List MakeR} {L : List Ent} {ids : List Int} {texts : List (List UInt8)} (h : MadeTo [] xs L ids texts) : xs.length < 1073741824 → AllMade xs.length L ids texts := by
  induction h with
  | nil => exact fun _ => ⟨Good.nil, by simp, ⟨rfl, fun k i t h1 _ => by simp at h1⟩⟩
  | @snoc xs L ids texts x m h k ih =>
    intro hl
    simp only [List.length_append, List.length_cons, List.length_nil] at hl
    have hA := ih (by omega)
    have hfew := hA.few
    have hS := step_same hx hA.good (by omega) hA.pairs x k
    have hmore := hS.more
    refine ⟨hS.good, ?_, (hA.pairs.pre hS.good hS.pre).snoc hS.is⟩
    simp only [List.length_append, List.length_cons, List.length_nil]
    omega
theorem TAt.raisable {L : List Ent} (hG : Good L) {i : Int} {t : List UInt8} (h : TAt L i t) : Raisable t := by
  intro h5
  rcases h with ⟨_, rfl⟩ | ⟨n, _, hn, rfl⟩
  · simp [kindL] at h5
  · have he : L[n]? = some L[n] := List.getElem?_eq_getElem hn
    have hs := hG.sh n _ he
    rw [hG.enc_eq he, kind_head hs] at h5
    rw [nodeOf_enc hG he]
    generalize L[n].sh = sh at *
    cases hs with
    | share s l h1 h2 h3 h4 _ =>
      refine ⟨by simp only [nodeSh]; rw [s_len]; omega, fun a ha => ?_⟩
      obtain ⟨u, hu, rfl⟩ := List.mem_map.1 ha
      rw [nonce_nine hG (h4 u hu)]
      omega
    | _ => simp at h5
theorem Paired.mem {L : List Ent} {ids : List Int} {texts : List (List UInt8)} (h : Paired L ids texts) {t : List UInt8} (ht : t ∈ texts) : ∃ i, TAt L i t := by
  obtain ⟨k, hk, rfl⟩ := List.mem_iff_getElem.1 ht
  have hki : k < ids.length := by rw [h.len]; exact hk
  exact ⟨ids[k], h.at_ k _ _ (List.getElem?_eq_getElem hki) (List.getElem?_eq_getElem hk)⟩
theorem made_ok {l : List MakeR} (hl : l.length ≤ 1000) (k : Nat) (L : List Ent) (ids : List Int) (texts : List (List UInt8)) (hk : k ≤ l.length) (h : MadeTo [] (l.take k) L ids texts) : MadeOk l L ids texts := by
  have hlk : (l.take k).length = k := by simp; omega
  have hA := h.all exp_same (by omega)
  have hfew := hA.few
  exact ⟨by omega, fun t ht => by obtain ⟨i, hi⟩ := hA.pairs.mem ht; exact hi.short hA.good, fun t ht => by obtain ⟨i, hi⟩ := hA.pairs.mem ht; exact hi.raisable hA.good, fun x _ _ => (hA.pairs.pick x.b).nine hA.good⟩
def mostOf (l : List Int) : Int := l.foldl (fun m i => if i > m then i else m) (-1)
theorem mostOf_snoc (l : List Int) (i : Int) : mostOf (l ++ [i]) = if i > mostOf l then i else mostOf l := by simp [mostOf]
structure InOrder (L : List Ent) (ids : List Int) : Prop where
  all : ∀ k i, ids[k]? = some i → -1 ≤ i ∧ i ≤ mostOf (ids.take k) + 1
  last : (L.length : Int) = mostOf ids + 1
theorem MadeTo.order {xs : List MakeR} {L : List Ent} {ids : List Int} {texts : List (List UInt8)} (h : MadeTo [] xs L ids texts) : xs.length < 1073741824 → InOrder L ids := by
  induction h with
  | nil => exact fun _ => ⟨fun k i h => by simp at h, rfl⟩
  | @snoc xs L ids texts x m h k ih =>
    intro hl
    simp only [List.length_append, List.length_cons, List.length_nil] at hl
    have hA := h.all exp_same (by omega)
    have hO := ih (by omega)
    have hfew := hA.few
    have hS := step_same exp_same hA.good (by omega) hA.pairs x k
    have hlast := hO.last
    have hm : -1 ≤ m.1 ∧ m.1 < (m.2.length : Int) := by
      rcases hS.is with ⟨h1, _⟩ | ⟨n, h1, h2, _⟩
      · omega
      · omega
    have hnew := hS.new
    refine ⟨fun j i hj => ?_, ?_⟩
    · by_cases hjl : j < ids.length
      · rw [List.getElem?_append_left hjl] at hj
        rw [List.take_append_of_le_length (by omega)]
        exact hO.all j i hj
      · rw [List.getElem?_append_right (by omega)] at hj
        have h0 : j - ids.length = 0 := by
          have := (List.getElem?_eq_some_iff.1 hj).1
          simpa using this
        have hje : j = ids.length := by omega
        rw [h0] at hj
        simp at hj
        rw [hje, List.take_left, ← hj]
        omega
    · rw [mostOf_snoc]
      split <;> omega
end Go.Proofs.Ytemhifeddejkjaa
