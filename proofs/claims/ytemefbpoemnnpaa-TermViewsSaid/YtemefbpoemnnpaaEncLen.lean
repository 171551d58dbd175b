/- The encodings of a good arena's terms: their lengths are the sizes; no encoding begins another one's (plain part). -/
import Derived.Test.YtemefbpoemnnpaaGood
import Derived.Test.YtemefbpoemnnpaaEncAll
import Derived.Test.YtemefbpoemnnpaaEnc1
namespace Go.Proofs.Ytemefbpoemnnpaa
open Go.RowKit

theorem Good.encodable {L : List Ent} (h : Good L) : Encodable L := fun n e he => by
  have := h.sh n e he
  obtain ⟨sh, z⟩ := e
  simp only at this ⊢
  cases this <;> simp
  assumption

theorem headL_length {L : List Ent} {sh : Shp} (h : GoodSh L sh) : (headL sh).length = ownOf sh.kind + sh.s.size := by
  have h0 : (noStr : ByteArray).size = 0 := rfl
  have hc : ∀ s : ByteArray, (cnt s.data.toList).length = 4 + s.size := cnt_length
  cases h <;> simp [headL, ownOf, hc, pack4, h0] <;> omega

theorem enc_length {L : List Ent} (h : Good L) (n : Nat) : ∀ e, L[n]? = some e → (enc L n).length = e.size := by
  induction n using Nat.strongRecOn with
  | ind n ih =>
  intro e he
  have hok := h.wf.ok n e he
  rw [enc_eq he hok.args, List.length_append, headL_length (h.sh n e he), h.size n e he]
  congr 1
  rw [List.length_flatten, List.map_map]
  unfold sumN
  congr 1
  refine List.map_congr_left fun t ht => ?_
  have htn := hok.args t ht
  have hn := (List.getElem?_eq_some_iff.1 he).1
  have hx : L[t]? = some L[t] := List.getElem?_eq_getElem (by omega)
  simp only [Function.comp, ih t htn L[t] hx, sizeN, hx, Option.map_some, Option.getD_some]
end Go.Proofs.Ytemefbpoemnnpaa
