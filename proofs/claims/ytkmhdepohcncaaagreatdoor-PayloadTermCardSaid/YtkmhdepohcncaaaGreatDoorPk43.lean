/- Part 43 of what the statement wants. -/
import Derived.Test.YtkmhdepohcncaaaGreatDoorPk42
namespace Go.Proofs.YtkmhdepohcncaaaGreatDoor
open Go.RowKit

theorem pyList_args {M : List Ent} (hG : Good M) {i : Int} {ts : List (List UInt8)} {ids : List Int} (ht : TAt M i (refListL ts)) (hT : TAts M ids ts) (hne : refListL ts ≠ []) : kindL (refListL ts) = 10 ∧ (nodeOf (refListL ts)).args = ts := by
  have hc : ts.length ≤ 32 ∧ (∀ x ∈ ts, x ≠ []) ∧ 5 + ts.flatten.length ≤ 131072 := by
    by_cases hc : ts.length ≤ 32 ∧ (∀ x ∈ ts, x ≠ []) ∧ 5 + ts.flatten.length ≤ 131072
    · exact hc
    · exact absurd (show refListL ts = [] from if_neg hc) hne
  have hr : refListL ts = tagL 10 ++ pack4 ts.length ++ ts.flatten := if_pos hc
  rcases tats hT with ⟨d, _, hd, hts⟩ | ⟨h, _⟩
  · rcases ht with ⟨_, h⟩ | ⟨n, _, hn, henc⟩
    · exact absurd h hne
    · have he : M[n]? = some (M[n]'hn) := List.getElem?_eq_getElem hn
      have h1 := (data_ent hG he).1
      have hk : kindL (refListL ts) = 10 := by rw [hr]; rfl
      refine ⟨hk, ?_⟩
      rw [← henc, hk] at h1
      have hno := nodeOf_enc hG he
      rw [← henc] at hno
      rw [hno]
      have hee := hG.enc_eq he
      rw [← henc, hr] at hee
      have hsh := hG.sh n _ he
      have hwf := hG.wf.ok n _ he
      show (M[n]'hn).sh.args.map (enc M) = ts
      have hargs : ∀ t ∈ (M[n]'hn).sh.args, t < M.length := fun t ht => by have := hwf.args t ht; omega
      clear hwf
      generalize (M[n]'hn).sh = sh at *
      cases hsh with
      | data | nonce | key | pub | share | sig | hash | derive | sealed => simp at h1
      | list l hl hl2 =>
        have h2 : (250 : UInt8) :: (pack4 ts.length ++ ts.flatten) = 250 :: (pack4 l.length ++ (l.map (enc M)).flatten) := by simpa [headL, tagL] using hee
        have h3 : pack4 ts.length ++ ts.flatten = pack4 l.length ++ (l.map (enc M)).flatten := by injection h2
        obtain ⟨h4, h5⟩ := pack4_app (by omega) (by omega) h3
        have h6 : d.length = l.length := by rw [← h4, hts, List.length_map]
        have := args_apart (L := M) (i := M.length) (fun t ht j x y h1 h2 h => enc_apart hG t j x y h1 h2 h) d l [] [] (fun t ht => ⟨hd t ht, hd t ht⟩) hargs h6 (by rw [← hts, h5])
        show l.map (enc M) = ts
        rw [hts, this.1]
  · exact absurd rfl (hc.2.1 _ h)

theorem pyData (s : List UInt8) (h : s.length ≤ 131067) : refDataL s = 241 :: cnt s := by
  unfold refDataL
  rw [if_neg (by omega), fits_some (by simp [tagL, pack4]; omega)]
  simp [tagL, cnt]
theorem pyDataT (s : List UInt8) (h : s.length ≤ 131067) : kindL (refDataL s) = 1 ∧ (refDataL s).drop 5 = s ∧ dataT (refDataL s) = some s ∧ refDataL s ≠ [] := by
  rw [pyData s h]
  have h1 : kindL (241 :: cnt s) = 1 := rfl
  have h2 : (241 :: cnt s).drop 5 = s := rfl
  refine ⟨h1, h2, ?_, by simp⟩
  unfold dataT
  rw [if_pos h1, h2]
theorem opq_ne {s : List UInt8} (h : opqL s = true) : s ≠ [] ∧ kindL s ≠ 1 := by
  unfold opqL at h
  simp only [Bool.and_eq_true, decide_eq_true_eq] at h
  refine ⟨fun e => ?_, h.2.2⟩
  subst e
  have : rightD [] = false := by decide +kernel
  rw [this] at h
  cases h.2.1
theorem pyOf (s : List UInt8) (h : s.length ≤ 131067) : fbT (ofL s) = some s ∧ ofL s ≠ [] := by
  unfold ofL
  by_cases ho : opqL s = true
  · rw [if_pos ho]
    obtain ⟨h1, h2⟩ := opq_ne ho
    refine ⟨?_, h1⟩
    unfold fbT
    rw [if_neg h1, if_pos h2]
  · rw [if_neg ho]
    obtain ⟨h1, h2, _, h4⟩ := pyDataT s h
    refine ⟨?_, h4⟩
    unfold fbT
    rw [if_neg h4, if_neg (by rw [h1]; simp), h2, if_neg ho]
theorem pyForm {x : FieldR} (hs : x.s.length ≤ 32767) (hv : (valueP x).1.length ≤ 131067) (hr : (writeP (x.kind.toNat : Int) x).2 = 0) : formT x.kind (fieldT x) = some (valueP x).1 := by
  unfold formT fieldT
  by_cases hk : x.kind = 116
  · rw [if_pos hk, if_pos hk, (pyOf x.s (by omega)).1]
    have hn : (x.kind.toNat : Int) = 116 := by rw [hk]; rfl
    have : (valueP x).1 = cnt x.s := by
      show (writeP (x.kind.toNat : Int) x).1 = cnt x.s
      unfold writeP at hr ⊢
      rw [hn] at hr ⊢
      split at hr
      · simp at hr
      · rename_i h
        rw [if_neg h]
        simp [usesP, wrBytes]
    rw [this]; rfl
  · rw [if_neg hk, if_neg hk]
    exact (pyDataT _ hv).2.2.1

theorem Parts.value_le {b : UInt8} {f : ByteArray} {s : List UInt8} (h : Parts b f s) {k : Nat} (hk : k < (fieldsF f s).length) : (valueP ((fieldsF f s)[k]'hk)).1.length ≤ s.length := by
  have hkl : k < (lettersOf f).length := by rw [← h.len]; exact hk
  have hkd := h.kind k hkl
  have hg : (fieldsF f s).getD k zeroF = (fieldsF f s)[k]'hk := by rw [List.getD_eq_getElem?_getD, List.getElem?_eq_getElem hk]; rfl
  have h1 := encK_mono (lettersOf f) (fieldsF f s) (show k + 1 ≤ (lettersOf f).length by omega)
  rw [← h.text] at h1
  have h2 : encK (lettersOf f) (fieldsF f s) (k + 1) = encK (lettersOf f) (fieldsF f s) k ++ (writeP (((lettersOf f).getD k 0).toNat : Int) ((fieldsF f s).getD k zeroF)).1 := rfl
  rw [h2, List.length_append, ← hkd, hg] at h1
  show (writeP (((fieldsF f s)[k]'hk).kind.toNat : Int) ((fieldsF f s)[k]'hk)).1.length ≤ _
  omega
theorem Parts.value_ok {b : UInt8} {f : ByteArray} {s : List UInt8} (h : Parts b f s) {k : Nat} (hk : k < (fieldsF f s).length) : (writeP (((fieldsF f s)[k]'hk).kind.toNat : Int) ((fieldsF f s)[k]'hk)).2 = 0 := by
  have hkl : k < (lettersOf f).length := by rw [← h.len]; exact hk
  have hkd := h.kind k hkl
  have hg : (fieldsF f s).getD k zeroF = (fieldsF f s)[k]'hk := by rw [List.getD_eq_getElem?_getD, List.getElem?_eq_getElem hk]; rfl
  have := h.right k hkl
  rw [← hkd, hg] at this
  exact this
theorem Parts.forms {b : UInt8} {f : ByteArray} {s : List UInt8} (h : Parts b f s) (hs : s.length ≤ 32767) : ∀ k, k ≤ (fieldsF f s).length →
    mapFK (lettersOf f) ((fieldsF f s).map fieldT) k = some (((fieldsF f s).take k).map fun x => (valueP x).1) ∧ ((((fieldsF f s).take k).map fun x => (valueP x).1)).flatten = encK (lettersOf f) (fieldsF f s) k
  | 0, _ => ⟨rfl, rfl⟩
  | k + 1, hk => by
    obtain ⟨h1, h2⟩ := h.forms hs k (by omega)
    have hkn : k < (fieldsF f s).length := by omega
    have hkl : k < (lettersOf f).length := by rw [← h.len]; exact hkn
    have hkd := h.kind k hkl
    have hg : (fieldsF f s).getD k zeroF = (fieldsF f s)[k]'hkn := by rw [List.getD_eq_getElem?_getD, List.getElem?_eq_getElem hkn]; rfl
    have hsm := h.small _ (List.getElem_mem hkn)
    have hf := pyForm (x := (fieldsF f s)[k]'hkn) (by have := hsm.s; omega) (by have := h.value_le hkn; omega) (h.value_ok hkn)
    have hgt : ((fieldsF f s).map fieldT).getD k [] = fieldT ((fieldsF f s)[k]'hkn) := by
      rw [List.getD_eq_getElem?_getD, List.getElem?_map, List.getElem?_eq_getElem hkn]; rfl
    rw [hg] at hkd
    have htk : (fieldsF f s).take (k + 1) = (fieldsF f s).take k ++ [(fieldsF f s)[k]'hkn] := List.take_succ_eq_append_getElem hkn
    refine ⟨?_, ?_⟩
    · rw [mapFK_step h1 (by rw [hgt, ← hkd]; exact hf), htk, List.map_append]; rfl
    · rw [htk, List.map_append, List.flatten_append, h2]
      have h3 : encK (lettersOf f) (fieldsF f s) (k + 1) = encK (lettersOf f) (fieldsF f s) k ++ (writeP (((lettersOf f).getD k 0).toNat : Int) ((fieldsF f s).getD k zeroF)).1 := rfl
      rw [h3, hg, ← hkd]
      simp [valueP]

/-- The parts of a message's term are joined to the message. -/
theorem py_joined {p : List UInt8} {b : UInt8} {f : ByteArray} {s : List UInt8} (hm : msgP p = some (b, f, s)) : joinedT (refDataL [b] :: (fieldsF f s).map fieldT) = some p := by
  obtain ⟨rfl, hs, _, hP⟩ := msgP_parts hm
  obtain ⟨h1, h2⟩ := hP.forms hs _ (Nat.le_refl _)
  rw [List.take_length] at h1 h2
  have hw : formsW (refDataL [b] :: (fieldsF f s).map fieldT) = some ([b] :: (fieldsF f s).map fun x => (valueP x).1) := by
    rw [formsW_cons, (pyDataT [b] (by simp)).2.2.1]
    show (if (fitP (formsP (b.toNat : Int)) ((((fieldsF f s).map fieldT).length : Nat) : Int)).2 = true then _ else none) = _
    rw [List.length_map, hP.len, hP.fit, if_pos rfl, ← hP.len, h1]
    rfl
  unfold joinedT
  rw [hw]
  have hfl : ([b] :: (fieldsF f s).map fun x => (valueP x).1).flatten = b :: s := by
    rw [List.flatten_cons, h2, hP.len, ← hP.text]; rfl
  simp only
  rw [hfl, hm]
  simp only
  rw [if_pos]
  unfold eqP
  rw [decide_eq_true_eq]
  apply List.ext_getElem (by simp)
  intro k h3 h4
  simp only [List.length_map] at h3
  simp only [List.drop_succ_cons, List.drop_zero, List.getElem_map]
  have := hP.value_ok h3
  exact Prod.ext rfl (decide_eq_true this)
theorem py_back {L : List Ent} {m : Int × List Ent} {p : List UInt8} (h : TermOf L m p) (hp : p.length ≤ 32768) (hne : termP p ≠ []) : bytesT (termP p) = some p := by
  cases hm : msgP p with
  | none =>
    obtain ⟨h1, h2, _, _⟩ := pyDataT p (by omega)
    rw [dataT_any hm]
    unfold bytesT
    rw [if_pos h1, h2]
    unfold unparsedT
    rw [if_neg (by omega), hm]; rfl
  | some q =>
    obtain ⟨b, f, s⟩ := q
    obtain ⟨ids, hT⟩ := h.parts b f s hm
    have he := listT_any hm
    have his := h.grown.is
    rw [he] at hne his ⊢
    obtain ⟨h1, h2⟩ := pyList_args h.grown.good his hT hne
    unfold bytesT
    rw [if_neg (by rw [h1]; decide), if_pos h1, h2, py_joined hm]
end Go.Proofs.YtkmhdepohcncaaaGreatDoor
