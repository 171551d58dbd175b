/- Layer 37: the keys of a map that is known as a function, ascending. -/
import Derived.Test.YtjphlhehhigpjaaCeI
import Derived.Test.YtjphlhehhigpjaaCeM
namespace Go.Proofs.Ytjphlhehhigpjaa
open Go.RowKit Go.Maps Go.WideMaps

section
variable {H : Type} {P : Program} {k : TypeId} {R : Value → Option (DataW H × List MemPlace)} {w : World} {b n : Nat} {D0 : DataW H}
theorem intKeys_mem37 (hown : w.ownsMap P k R b n D0) (K : Keyed P k) (hk : P.underlying k = some (.int .i64)) : (Go.intKeys D0).Nodup ∧ ∀ x, x ∈ Go.intKeys D0 ↔ Maps.has D0 (.int .i64 x) = true := by
  obtain ⟨es, hD, hpw, _⟩ := hown.entries K
  obtain ⟨es', hD', hko⟩ := hown.keysOf
  obtain rfl : es = es' := by rw [hD] at hD'; simpa using hD'
  subst hD
  have hki : ∀ p ∈ es, ∃ x : Int, p.1 = .int .i64 x := fun p hp => by
    obtain ⟨v, hv⟩ := hko p hp
    obtain ⟨x, _, hx, _⟩ := Go.Maps.keyOf_i64 hk hv
    exact ⟨x, hx⟩
  constructor
  · unfold Go.intKeys
    refine List.pairwise_map.2 (hpw.imp_of_mem fun {p q} hp' hq' hne e => hne ?_)
    obtain ⟨a, ha⟩ := hki p hp'
    obtain ⟨b, hb⟩ := hki q hq'
    rw [ha, hb] at e ⊢
    exact congrArg _ e
  · intro x
    rw [has_eq, List.any_eq_true]
    unfold Go.intKeys
    rw [List.mem_map]
    constructor
    · rintro ⟨p, hp', rfl⟩
      obtain ⟨a, ha⟩ := hki p hp'
      exact ⟨p, hp', by rw [ha]; simp [Lit.sameKey, Go.intOf]⟩
    · rintro ⟨p, hp', hs⟩
      obtain ⟨a, ha⟩ := hki p hp'
      rw [ha] at hs
      exact ⟨p, hp', by rw [ha]; simpa [Lit.sameKey, Go.intOf] using hs⟩
theorem intKeys_len37 (hown : w.ownsMap P k R b n D0) : (Go.intKeys D0).length = Maps.size D0 := by
  obtain ⟨es, rfl, _⟩ := hown.keysOf
  unfold Go.intKeys
  rw [List.length_map]
  rfl
end
/-- What the keys' list is. -/
def AscAt (w : World) (f : Lit → Option Value) (n : Nat) (e : Ending) (w' : World) : Prop := ∃ (v : Value) (L : List Int), e = .returned v ∧ IdsAt w' v L ∧ L.Pairwise (· < ·) ∧ (∀ x, x ∈ L ↔ (f (keyI x)).isSome = true) ∧ L.length ≤ n ∧ Below w.heap.size w w'
theorem asc_of37 {w w' : World} {b n : Nat} {f : Lit → Option Value} {D : DataW Value} (hown : w.ownsMap Try.prog 3 rawElem b n D) (hf : ∀ kl, WideAt.IsKeyLit kl → Maps.has D kl = (f kl).isSome ∧ ∀ z, D.atKey kl (.held z) = .held ((f kl).getD z))
    {v : Value} {ss : List Int} (hp : ss.Perm (Go.intKeys D)) (hr : w'.ownsRow w.heap.size 3 1 v ss.length ((ss.mergeSort (fun x y => decide (x ≤ y))).map Go.encZ)) (hnil : v = .slice none 0 0 ↔ ss = []) (hb : Below w.heap.size w w') : AscAt w f n (.returned v) w' := by
  obtain ⟨hnd, hmem⟩ := intKeys_mem37 hown lawInt31 Try.underlying3
  have hlen := intKeys_len37 hown
  have hsz := hown.size_le
  have tr : ∀ a b c : Int, decide (a ≤ b) = true → decide (b ≤ c) = true → decide (a ≤ c) = true := fun a b c h1 h2 => by simp only [decide_eq_true_eq] at *; omega
  have to : ∀ a b : Int, (decide (a ≤ b) || decide (b ≤ a)) = true := fun a b => by simp only [Bool.or_eq_true, decide_eq_true_eq]; omega
  have hps := List.mergeSort_perm ss (fun x y => decide (x ≤ y))
  have hpl : (ss.mergeSort (fun x y => decide (x ≤ y))).length = ss.length := hps.length_eq
  have hnd2 : (ss.mergeSort (fun x y => decide (x ≤ y))).Nodup := (hps.trans hp).nodup_iff.2 hnd
  have hso := List.pairwise_mergeSort tr to ss
  refine ⟨v, ss.mergeSort (fun x y => decide (x ≤ y)), rfl, IntsAt.ofRow (by rw [hpl]; exact hr) (fun e => hnil.2 (by rw [e] at hpl; exact List.length_eq_zero_iff.1 hpl.symm)), ?_, fun x => ?_, ?_, hb⟩
  · refine (hso.and hnd2).imp fun {a b} h => ?_
    have h1 := h.1
    simp only [decide_eq_true_eq] at h1
    have h2 := h.2
    omega
  · rw [(hps.trans hp).mem_iff, hmem x]
    have := (hf (keyI x) (keyI_lit x)).1
    unfold keyI at this ⊢
    rw [this]
  · rw [hpl, hp.length_eq, hlen]; exact hsz
theorem ascF0_any {w : World} {b n : Nat} {f : Lit → Option Value} (h : MapF w Try.prog 3 b n f) (hn : n ≤ 900) : Calls Try.prog 30 #[.map (some b)] w (AscAt w f n) := by
  obtain ⟨D, hown, hf⟩ := h
  have hsz := hown.size_le
  refine (asc0_any b n D rawElem w hown (by unfold maxLen; omega) (by omega)).mono ?_
  rintro e w' ⟨v, ss, rfl, hp, hr, hnil, hb⟩
  exact asc_of37 hown hf hp hr hnil hb
theorem ascF1_any {w : World} {b n : Nat} {f : Lit → Option Value} (h : MapF w Try.prog 3 b n f) (hn : n ≤ 900) : Calls Try.prog 32 #[.map (some b)] w (AscAt w f n) := by
  obtain ⟨D, hown, hf⟩ := h
  have hsz := hown.size_le
  refine (asc1_any b n D rawElem w hown (by unfold maxLen; omega) (by omega)).mono ?_
  rintro e w' ⟨v, ss, rfl, hp, hr, hnil, hb⟩
  exact asc_of37 hown hf hp hr hnil hb
end Go.Proofs.Ytjphlhehhigpjaa
