/- Part 37 of what the statement wants. -/
import Derived.Test.YtkmhdepohcncaaaGreatDoorPk27
import Derived.Test.YtkmhdepohcncaaaGreatDoorPk29
import Derived.Test.YtkmhdepohcncaaaGreatDoorPk31
import Derived.Test.YtkmhdepohcncaaaGreatDoorPk32
import Derived.Test.YtkmhdepohcncaaaGreatDoorPk33
import Derived.Test.YtkmhdepohcncaaaGreatDoorPk34
namespace Go.Proofs.YtkmhdepohcncaaaGreatDoor
open Go.RowKit

theorem formsP_apart (n : Int) : ((formsP n).map (·.size)).Nodup := by
  have h : ∀ r ∈ tableP, (r.2.2.map (·.size)).Nodup := by decide
  rcases formsP_mem n with e | ⟨r, hr, e⟩
  · rw [e]; simp
  · rw [e]; exact h r hr
theorem apart_ne {l : List ByteArray} (h : (l.map (·.size)).Nodup) {k i : Nat} (hk : k < i) (hi : i < l.length) : ((((l[k]'(by omega)).size : Nat) : Int) == ((l[i].size : Nat) : Int)) = false := by
  rw [beq_eq_false_iff_ne]
  intro e
  have e' : (l[k]'(by omega)).size = l[i].size := by omega
  have := (List.getElem_inj (xs := l.map (fun x => x.size)) (i := k) (j := i) (h₀ := by simp; omega) (h₁ := by simpa using hi) h).1 (by simpa using e')
  omega
theorem fitP_self {l : List ByteArray} (h : (l.map (·.size)).Nodup) {i : Nat} (hi : i < l.length) : fitP l ((l[i].size : Nat) : Int) = (l[i], true) := by
  refine fitP_hit hi (fun x hx => ?_) (by simp)
  obtain ⟨k, hk, rfl⟩ := List.mem_iff_getElem.1 hx
  simp only [List.length_take] at hk
  rw [List.getElem_take]
  exact apart_ne h (by omega) hi
end Go.Proofs.YtkmhdepohcncaaaGreatDoor

namespace Go.Proofs.YtkmhdepohcncaaaGreatDoor
open Go.RowKit

theorem fixedP_inv {right : List UInt8 → Bool} {n : Nat} {rest : List UInt8} (h : (fixedP right (n : Int) rest 0).2.2 = 0) :
    rest = (fixedP right (n : Int) rest 0).1 ++ (fixedP right (n : Int) rest 0).2.1 ∧ (fixedP right (n : Int) rest 0).1.length = n ∧ right (fixedP right (n : Int) rest 0).1 = true := by
  unfold fixedP at h ⊢
  rw [if_neg (by simp)] at h ⊢
  split at h
  · simp at h
  · rename_i hn
    rw [if_neg hn]
    split at h
    · rename_i hr
      rw [if_pos hr]
      simp only [Int.toNat_natCast] at hr ⊢
      exact ⟨(List.take_append_drop _ _).symm, by rw [List.length_take]; omega, hr⟩
    · simp at h
theorem u32Q_inv {rest : List UInt8} (h : (u32Q rest 0).2.2 = 0) : rest = pack4 (u32Q rest 0).1 ++ (u32Q rest 0).2.1 := by
  have hf := fixedP_inv (right := anyR) (n := 4) (rest := rest) h
  have h1 : (u32Q rest 0).1 = numL (fixedP anyR (4 : Nat) rest 0).1 := rfl
  have h2 : (u32Q rest 0).2.1 = (fixedP anyR (4 : Nat) rest 0).2.1 := rfl
  rw [h1, h2]
  obtain ⟨e, hl, _⟩ := hf
  generalize (fixedP anyR ((4 : Nat) : Int) rest 0).1 = a at *
  have : pack4 (numL a) = a := by
    match a, hl with
    | [a0, a1, a2, a3], _ => rw [numL_four, pack_num4 rfl]
  rw [this]
  exact e
theorem countedP_inv {right : List UInt8 → Bool} {rest : List UInt8} (h : (countedP right rest 0).2.2 = 0) : rest = cnt (countedP right rest 0).1 ++ (countedP right rest 0).2.1 ∧ right (countedP right rest 0).1 = true := by
  unfold countedP at h ⊢
  simp only at h ⊢
  split at h
  · rename_i hf
    rw [if_pos hf]
    have hu : (u32Q rest 0).2.2 = 0 := by
      apply Classical.byContradiction
      intro hu
      have : (fixedP right ((u32Q rest 0).1 : Int) (u32Q rest 0).2.1 (u32Q rest 0).2.2).2.2 = (u32Q rest 0).2.2 := by unfold fixedP; rw [if_pos hu]
      rw [this] at hf
      exact hu hf
    have e1 := u32Q_inv hu
    rw [hu] at hf ⊢
    obtain ⟨e2, e3, e4⟩ := fixedP_inv hf
    refine ⟨?_, e4⟩
    unfold cnt
    rw [e3, List.append_assoc, ← e2, ← e1]
  · rename_i hf
    exact absurd h hf
theorem textsP_inv : ∀ (n : Nat) (r : List UInt8), (textsP n r 0).2.2 = 0 → r = ((textsP n r 0).1.map cnt).flatten ++ (textsP n r 0).2.1
  | 0, r, _ => by simp [textsP]
  | n + 1, r, h => by
    have hc : (countedP anyR r 0).2.2 = 0 := by
      apply Classical.byContradiction
      intro hc
      have h2 : (textsP n (countedP anyR r 0).2.1 (countedP anyR r 0).2.2).2 = ((countedP anyR r 0).2.1, (countedP anyR r 0).2.2) := by
        have : ∀ (n : Nat) (r : List UInt8) {e : Int}, e ≠ 0 → (textsP n r e).2 = (r, e) := by
          intro n
          induction n with
          | zero => intro r e _; rfl
          | succ n ih =>
            intro r e he
            rw [textsP, countedP_err anyR he]
            exact ih r he
        exact this n _ hc
      have h3 : (textsP (n + 1) r 0).2 = (textsP n (countedP anyR r 0).2.1 (countedP anyR r 0).2.2).2 := rfl
      rw [h3, h2] at h
      exact hc h
    have e1 := (countedP_inv hc).1
    have h' : (textsP n (countedP anyR r 0).2.1 0).2.2 = 0 := by
      have h3 : (textsP (n + 1) r 0).2 = (textsP n (countedP anyR r 0).2.1 (countedP anyR r 0).2.2).2 := rfl
      rw [h3, hc] at h
      exact h
    have ih := textsP_inv n _ h'
    have h4 : textsP (n + 1) r 0 = ((countedP anyR r 0).1 :: (textsP n (countedP anyR r 0).2.1 0).1, (textsP n (countedP anyR r 0).2.1 0).2) := by
      rw [textsP, hc]
    rw [h4]
    simp only [List.map_cons, List.flatten_cons, List.append_assoc]
    rw [← ih, ← e1]
theorem startsZ_plain (l : List UInt8) : startsZ (plainL l) = false := by
  induction l with
  | nil => rfl
  | cons b l ih =>
    rw [plainL_cons]
    split
    · exact ih
    · rename_i h
      simp [startsZ, h]
theorem small_bool {b : UInt8} (h : b.toNat ≤ 1) : boolL (decide (b.toNat = 1)) = [b] := by
  have : b = 0 ∨ b = 1 := by
    rcases Nat.le_one_iff_eq_zero_or_eq_one.1 h with h | h
    · exact .inl (UInt8.toNat_inj.1 (by rw [h]; rfl))
    · exact .inr (UInt8.toNat_inj.1 (by rw [h]; rfl))
  rcases this with rfl | rfl <;> decide
/-- What was read of a letter is written as it was. -/
theorem readP_write {k : UInt8} (hk : k ∈ letters8) {r : List UInt8} (h : (readP k r).1 = 0) :
    (writeP (k.toNat : Int) (readP k r).2.1).2 = 0 ∧ r = (writeP (k.toNat : Int) (readP k r).2.1).1 ++ (readP k r).2.2 := by
  simp only [letters8, List.mem_cons, List.not_mem_nil, or_false] at hk
  rcases hk with rfl | rfl | rfl | rfl | rfl | rfl | rfl | rfl
  · have he : orE (boolP r 0).2.2 0 = 0 := h
    have h0 : (fixedP boolR ((1 : Nat) : Int) r 0).2.2 = 0 := (orE_zero he).1
    obtain ⟨e1, e2, e3⟩ := fixedP_inv h0
    have hb : (boolP r 0).1 = decide ((hd0 (fixedP boolR ((1 : Nat) : Int) r 0).1).toNat = 1) := rfl
    have hr : readP 98 r = (orE (boolP r 0).2.2 0, ⟨98, cond (boolP r 0).1 1 0, [], []⟩, (boolP r 0).2.1) := rfl
    have h2 : (boolP r 0).2.1 = (fixedP boolR ((1 : Nat) : Int) r 0).2.1 := rfl
    rw [hr, hb, h2]
    generalize (fixedP boolR ((1 : Nat) : Int) r 0).1 = a at *
    match a, e2 with
    | [c], _ =>
      have hc : c.toNat ≤ 1 := of_decide_eq_true e3
      have hd : hd0 [c] = c := rfl
      rw [hd]
      have hw : writeP 98 ⟨98, cond (decide (c.toNat = 1)) 1 0, [], []⟩ = (boolL (decide (c.toNat = 1)), 0) := by
        by_cases h1 : c.toNat = 1
        · rw [decide_eq_true h1]; rfl
        · rw [decide_eq_false h1]; rfl
      have hw' : writeP (((98 : UInt8).toNat : Nat) : Int) ⟨98, cond (decide (c.toNat = 1)) 1 0, [], []⟩ = (boolL (decide (c.toNat = 1)), 0) := hw
      simp only [hw', small_bool hc]
      exact ⟨trivial, e1⟩
  · have he : orE (countedP anyR r 0).2.2 0 = 0 := h
    have e1 := (countedP_inv (orE_zero he).1).1
    have hr : readP 115 r = (orE (countedP anyR r 0).2.2 0, ⟨115, 0, (countedP anyR r 0).1, []⟩, (countedP anyR r 0).2.1) := rfl
    rw [hr]
    exact ⟨rfl, e1⟩
  · have he : orE (u32Q r 0).2.2 0 = 0 := h
    have e1 := u32Q_inv (orE_zero he).1
    have hl := u32Q_lt r 0
    have hr : readP 117 r = (orE (u32Q r 0).2.2 0, ⟨117, ((u32Q r 0).1 : Int), [], []⟩, (u32Q r 0).2.1) := rfl
    rw [hr]
    generalize u32Q r 0 = p at *
    have hw : writeP (((117 : UInt8).toNat : Nat) : Int) ⟨117, (p.1 : Int), [], []⟩ = (pack4 p.1, 0) := by
      show wrNum 117 (p.1 : Int) = _
      unfold wrNum
      rw [if_neg (by omega), if_pos ⟨rfl, by omega, by omega⟩]
      rfl
    simp only [hw]
    exact ⟨trivial, e1⟩
  · have he : orE (countedP wholeR r 0).2.2 0 = 0 := h
    obtain ⟨e1, e2⟩ := countedP_inv (orE_zero he).1
    have hr : readP 109 r = (orE (countedP wholeR r 0).2.2 0, ⟨109, 0, plainL (countedP wholeR r 0).1, []⟩, (countedP wholeR r 0).2.1) := rfl
    rw [hr]
    generalize countedP wholeR r 0 = p at *
    have hwh : wholeL p.1 = p.1 := of_decide_eq_true ((wholeR_iff _).symm.trans e2)
    have hw : writeP (((109 : UInt8).toNat : Nat) : Int) ⟨109, 0, plainL p.1, []⟩ = (cnt p.1, 0) := by
      show wrBytes 109 (plainL p.1) = _
      unfold wrBytes
      rw [if_neg (by omega), if_pos ⟨rfl, startsZ_plain _⟩, wholeL_plain, hwh]
    simp only [hw]
    exact ⟨trivial, e1⟩
  · have he : orE (countedP anyR r 0).2.2 ((splitP (countedP anyR r 0).1).2 : Int) = 0 := h
    obtain ⟨h0, h1⟩ := orE_zero he
    have e1 := (countedP_inv h0).1
    have hr : readP 110 r = (orE (countedP anyR r 0).2.2 ((splitP (countedP anyR r 0).1).2 : Int), ⟨110, 0, [], (splitP (countedP anyR r 0).1).1⟩, (countedP anyR r 0).2.1) := rfl
    rw [hr]
    generalize countedP anyR r 0 = p at *
    obtain ⟨e2, e3⟩ := join_split p.1 (by omega)
    have hw : writeP (((110 : UInt8).toNat : Nat) : Int) ⟨110, 0, [], (splitP p.1).1⟩ = (cnt p.1, 0) := by
      show wrList 110 (splitP p.1).1 = _
      unfold wrList
      rw [if_neg (by omega), if_pos e3, e2]
    simp only [hw]
    exact ⟨trivial, e1⟩
  · have he : orE (fixedP anyR ((16 : Nat) : Int) r 0).2.2 0 = 0 := h
    obtain ⟨e1, e2, _⟩ := fixedP_inv (orE_zero he).1
    have hr : readP 99 r = (orE (fixedP anyR ((16 : Nat) : Int) r 0).2.2 0, ⟨99, 0, (fixedP anyR ((16 : Nat) : Int) r 0).1, []⟩, (fixedP anyR ((16 : Nat) : Int) r 0).2.1) := rfl
    rw [hr]
    generalize fixedP anyR ((16 : Nat) : Int) r 0 = p at *
    have hw : writeP (((99 : UInt8).toNat : Nat) : Int) ⟨99, 0, p.1, []⟩ = (p.1, 0) := by
      show wrBytes 99 p.1 = _
      unfold wrBytes
      rw [if_neg (by omega), if_neg (fun h => by omega), if_pos ⟨rfl, e2⟩]
    simp only [hw]
    exact ⟨trivial, e1⟩
  · have he : orE (countedP anyR r 0).2.2 0 = 0 := h
    have e1 := (countedP_inv (orE_zero he).1).1
    have hr : readP 116 r = (orE (countedP anyR r 0).2.2 0, ⟨116, 0, (countedP anyR r 0).1, []⟩, (countedP anyR r 0).2.1) := rfl
    rw [hr]
    exact ⟨rfl, e1⟩
  · have he : orE (extsQ r).2.2.2 (extsQ r).1 = 0 := h
    obtain ⟨h0, h1⟩ := orE_zero he
    have hr : readP 101 r = (orE (extsQ r).2.2.2 (extsQ r).1, ⟨101, 0, [], (extsQ r).2.1⟩, (extsQ r).2.2.1) := rfl
    rw [hr]
    have hu := u32Q_lt r 0
    have hx : extsQ r = if 8 < (u32Q r 0).1 then (2, [], (u32Q r 0).2) else (0, textsP (2 * (u32Q r 0).1) (u32Q r 0).2.1 (u32Q r 0).2.2) := rfl
    by_cases h8 : 8 < (u32Q r 0).1
    · rw [hx, if_pos h8] at h1
      exact absurd h1 (by show (2 : Int) ≠ 0; omega)
    · rw [if_neg h8] at hx
      rw [hx] at h0 ⊢
      have hue : (u32Q r 0).2.2 = 0 := by
        apply Classical.byContradiction
        intro hue
        have : ∀ (n : Nat) (r : List UInt8) {e : Int}, e ≠ 0 → (textsP n r e).2 = (r, e) := by
          intro n
          induction n with
          | zero => intro r e _; rfl
          | succ n ih =>
            intro r e he
            rw [textsP, countedP_err anyR he]
            exact ih r he
        have h2 := this (2 * (u32Q r 0).1) (u32Q r 0).2.1 hue
        have h3 : (textsP (2 * (u32Q r 0).1) (u32Q r 0).2.1 (u32Q r 0).2.2).2.2 = 0 := h0
        rw [h2] at h3
        exact hue h3
      have e1 := u32Q_inv hue
      rw [hue] at h0 ⊢
      have e2 := textsP_inv _ _ h0
      have hlen := textsP_len (2 * (u32Q r 0).1) (u32Q r 0).2.1 0
      generalize u32Q r 0 = p at *
      generalize textsP (2 * p.1) p.2.1 0 = q at *
      have hw : writeP (((101 : UInt8).toNat : Nat) : Int) ⟨101, 0, [], q.1⟩ = (pack4 p.1 ++ (q.1.map cnt).flatten, 0) := by
        show wrList 101 q.1 = _
        unfold wrList extsP
        rw [if_pos rfl, if_neg (by omega), if_neg (by omega), hlen, show 2 * p.1 / 2 = p.1 by omega]
      simp only [hw]
      exact ⟨trivial, by rw [List.append_assoc, ← e2, ← e1]⟩
end Go.Proofs.YtkmhdepohcncaaaGreatDoor

namespace Go.Proofs.YtkmhdepohcncaaaGreatDoor
open Go.RowKit

theorem encK_cons (k : UInt8) (F : List UInt8) (x : FieldR) (fs : List FieldR) : ∀ n, encK (k :: F) (x :: fs) (n + 1) = (writeP (k.toNat : Int) x).1 ++ encK F fs n
  | 0 => by simp [encK]
  | n + 1 => by
    rw [encK, encK_cons k F x fs n, encK, List.append_assoc]
    simp
theorem readsP_enc : ∀ (F r : List UInt8), (∀ k ∈ F, k ∈ letters8) → (readsP F r).2.1 = 0 →
    r = encK F (readsP F r).2.2.1 F.length ++ (readsP F r).2.2.2 ∧ ∀ k, k < F.length → (writeP ((F.getD k 0).toNat : Int) ((readsP F r).2.2.1.getD k zeroF)).2 = 0
  | [], r, _, _ => ⟨by simp [encK, readsP], fun k hk => by simp at hk⟩
  | k :: F, r, hl, h => by
    by_cases h0 : (readP k r).1 = 0
    · rw [readsP_ok h0] at h ⊢
      obtain ⟨hw1, hw2⟩ := readP_write (hl k (by simp)) h0
      obtain ⟨e1, e2⟩ := readsP_enc F (readP k r).2.2 (fun x hx => hl x (by simp [hx])) h
      refine ⟨?_, fun j hj => ?_⟩
      · rw [List.length_cons, encK_cons, List.append_assoc]
        show r = _ ++ (encK F (readsP F (readP k r).2.2).2.2.1 F.length ++ (readsP F (readP k r).2.2).2.2.2)
        rw [← e1, ← hw2]
      · cases j with
        | zero => simpa using hw1
        | succ j => simpa using e2 j (by simpa using hj)
    · rw [readsP_no h0] at h
      exact absurd h h0
theorem readsP_sm : ∀ (F r : List UInt8) (m : Nat), r.length ≤ m → ∀ x ∈ (readsP F r).2.2.1, FieldSm m x
  | [], r, m, _, x, hx => by simp [readsP] at hx
  | k :: F, r, m, hr, x, hx => by
    by_cases h0 : (readP k r).1 = 0
    · rw [readsP_ok h0] at hx
      rcases List.mem_cons.1 hx with rfl | hx
      · exact (readP_in k r).mono hr
      · exact readsP_sm F _ m (Nat.le_trans (readP_rest k r) hr) x hx
    · rw [readsP_no h0] at hx
      simp at hx
theorem fitsF_parts {f : ByteArray} {s : List UInt8} (h : fitsF f s = true) : (readsP (lettersOf f) s).2.1 = 0 ∧ (readsP (lettersOf f) s).2.2.2 = [] := by
  unfold fitsF at h
  simp only [Bool.and_eq_true, decide_eq_true_eq] at h
  refine ⟨h.1, ?_⟩
  have h2 := h.2
  unfold endP at h2
  rw [if_neg (by simp)] at h2
  split at h2
  · assumption
  · simp at h2
end Go.Proofs.YtkmhdepohcncaaaGreatDoor
