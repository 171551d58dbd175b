/- The encodings of a good arena's terms: their lengths are the sizes; no encoding begins another one's (plain part).
No encoding of a good arena's terms begins another one's (plain part). -/
import Derived.Test.YtemhifeddejkjaaGood
import Derived.Test.YtemhifeddejkjaaEncAll
import Derived.Test.YtemhifeddejkjaaEnc1
import Derived.BigRegion
namespace Go.Proofs.Ytemhifeddejkjaa
open Go.RowKit

theorem Good.encodable {L : List Ent} (h : Good L) : Encodable L := fun n e he => by
  have := h.sh n e he
  obtain ⟨sh, z⟩ := e
  simp only at this ⊢
  cases this <;> simp
  assumption

theorem headL_length {L : List Ent} {sh : Shp} (h : GoodSh L sh) : (headL sh).length = ownOf sh.kind + sh.s.size := by
  have h0 : (noStr : ByteArray).size = 0 := rfl
  have hc : ∀ s : ByteArray, (cnt s.data.toList).length = 4 + s.size := cnt_length
  cases h <;> simp [headL, ownOf, hc, pack4, h0] <;> omega

theorem enc_length {L : List Ent} (h : Good L) (n : Nat) : ∀ e, L[n]? = some e → (enc L n).length = e.size := by
  induction n using Nat.strongRecOn with
  | ind n ih =>
  intro e he
  have hok := h.wf.ok n e he
  rw [enc_eq he hok.args, List.length_append, headL_length (h.sh n e he), h.size n e he]
  congr 1
  rw [List.length_flatten, List.map_map]
  unfold sumN
  congr 1
  refine List.map_congr_left fun t ht => ?_
  have htn := hok.args t ht
  have hn := (List.getElem?_eq_some_iff.1 he).1
  have hx : L[t]? = some L[t] := List.getElem?_eq_getElem (by omega)
  simp only [Function.comp, ih t htn L[t] hx, sizeN, hx, Option.map_some, Option.getD_some]
end Go.Proofs.Ytemhifeddejkjaa

namespace Go.Proofs.Ytemhifeddejkjaa
open Go.RowKit

theorem pack4_app {a b : Nat} {x y : List UInt8} (ha : a < 4294967296) (hb : b < 4294967296) (h : pack4 a ++ x = pack4 b ++ y) : a = b ∧ x = y := by
  obtain ⟨h1, h2⟩ := List.append_inj h rfl
  have := congrArg num4 h1
  rw [num4_pack a ha, num4_pack b hb] at this
  exact ⟨this, h2⟩
theorem cnt_app {s t : ByteArray} {x y : List UInt8} (hs : s.size < 4294967296) (ht : t.size < 4294967296) (h : cnt s.data.toList ++ x = cnt t.data.toList ++ y) : s = t ∧ x = y := by
  have e1 : s.data.toList.length = s.size := by rw [Array.length_toList]; rfl
  have e2 : t.data.toList.length = t.size := by rw [Array.length_toList]; rfl
  unfold cnt at h
  rw [List.append_assoc, List.append_assoc] at h
  obtain ⟨h1, h2⟩ := pack4_app (by omega) (by omega) h
  obtain ⟨h3, h4⟩ := List.append_inj h2 h1
  refine ⟨?_, h4⟩
  rw [← bs_list s, ← bs_list t, h3]

theorem head_apart {L : List Ent} {p q : Shp} {n m : Nat} {x y : List UInt8} (hp : GoodSh L p) (hq : GoodSh L q) (hp' : p.Ok n) (hq' : q.Ok m) (h : headL p ++ x = headL q ++ y) :
    p.kind = q.kind ∧ p.a = q.a ∧ p.b = q.b ∧ p.s = q.s ∧ p.args.length = q.args.length ∧ x = y := by
  have s1 := hp'.s
  have s2 := hq'.s
  cases hp <;> cases hq <;> simp [headL] at h s1 s2 ⊢
  · obtain ⟨rfl, rfl⟩ := cnt_app (by omega) (by omega) h
    exact ⟨rfl, rfl⟩
  · obtain ⟨e1, h2⟩ := pack4_app (by omega) (by omega) h
    obtain ⟨e2, e3⟩ := pack4_app (by omega) (by omega) h2
    exact ⟨e1, e2, e3⟩
  · obtain ⟨rfl, rfl⟩ := pack4_app (by omega) (by omega) h
    exact ⟨rfl, rfl⟩
  · exact h
  · obtain ⟨e1, h2⟩ := cnt_app (by omega) (by omega) h
    obtain ⟨e2, e3⟩ := pack4_app (by omega) (by omega) h2
    exact ⟨e1, e2, e3⟩
  · obtain ⟨rfl, rfl⟩ := cnt_app (by omega) (by omega) h
    exact ⟨rfl, rfl⟩
  · exact h
  · rename_i c _ _ _ hc _ _ _ c' _ _ _ hc' _ _ _
    obtain ⟨h1, rfl⟩ := h
    have := congrArg UInt8.toNat h1
    rw [UInt8.toNat_ofNat', UInt8.toNat_ofNat'] at this
    exact ⟨by omega, rfl⟩
  · obtain ⟨rfl, rfl⟩ := pack4_app (by omega) (by omega) h
    exact ⟨rfl, rfl⟩
  · obtain ⟨h1, rfl⟩ := pack4_app (by omega) (by omega) h
    exact ⟨h1, rfl⟩

theorem args_apart {L : List Ent} {i : Nat} (ih : ∀ t, t < i → ∀ j x y, t < L.length → j < L.length → enc L t ++ x = enc L j ++ y → t = j ∧ x = y) :
    ∀ (l l' : List Nat) (x y : List UInt8), (∀ t ∈ l, t < i ∧ t < L.length) → (∀ t ∈ l', t < L.length) → l.length = l'.length → (l.map (enc L)).flatten ++ x = (l'.map (enc L)).flatten ++ y → l = l' ∧ x = y
  | [], [], x, y, _, _, _, h => ⟨rfl, by simpa using h⟩
  | t :: l, j :: l', x, y, h1, h2, h3, h => by
    simp only [List.map_cons, List.flatten_cons, List.append_assoc] at h
    obtain ⟨e1, h4⟩ := ih t (h1 t (by simp)).1 j _ _ (h1 t (by simp)).2 (h2 j (by simp)) h
    obtain ⟨e2, e3⟩ := args_apart ih l l' x y (fun u hu => h1 u (by simp [hu])) (fun u hu => h2 u (by simp [hu])) (by simpa using h3) h4
    exact ⟨by rw [e1, e2], e3⟩

theorem enc_apart {L : List Ent} (h : Good L) (i : Nat) : ∀ j x y, i < L.length → j < L.length → enc L i ++ x = enc L j ++ y → i = j ∧ x = y := by
  induction i using Nat.strongRecOn with
  | ind i ih =>
  intro j x y hi hj he
  have hi' : L[i]? = some L[i] := List.getElem?_eq_getElem hi
  have hj' : L[j]? = some L[j] := List.getElem?_eq_getElem hj
  have oki := h.wf.ok i _ hi'
  have okj := h.wf.ok j _ hj'
  rw [enc_eq hi' oki.args, enc_eq hj' okj.args, List.append_assoc, List.append_assoc] at he
  obtain ⟨h1, h2, h3, h4, h5, h6⟩ := head_apart (h.sh i _ hi') (h.sh j _ hj') oki okj he
  obtain ⟨h7, h8⟩ := args_apart ih _ _ _ _ (fun t ht => ⟨oki.args t ht, by have := oki.args t ht; omega⟩) (fun t ht => by have := okj.args t ht; omega) h5 h6
  refine ⟨?_, h8⟩
  have hsh : L[i].sh = L[j].sh := by
    revert h1 h2 h3 h4 h7
    obtain ⟨⟨k, a, b, s, l⟩, z⟩ := L[i]
    obtain ⟨⟨k', a', b', s', l'⟩, z'⟩ := L[j]
    rintro rfl rfl rfl rfl rfl
    rfl
  have hnd := h.wf.apart
  have hp := List.pairwise_iff_getElem.1 hnd
  rcases Nat.lt_trichotomy i j with hlt | heq | hlt
  · exact absurd (by rw [List.getElem_map, List.getElem_map]; exact hsh) (hp i j (by simpa using hi) (by simpa using hj) hlt)
  · exact heq
  · exact absurd (by rw [List.getElem_map, List.getElem_map]; exact hsh.symm) (hp j i (by simpa using hj) (by simpa using hi) hlt)
end Go.Proofs.Ytemhifeddejkjaa
