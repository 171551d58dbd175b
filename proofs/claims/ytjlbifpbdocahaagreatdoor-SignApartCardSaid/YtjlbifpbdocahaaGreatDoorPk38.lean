/- Part 38 of what the statement wants. -/
import Derived.Test.YtjlbifpbdocahaaGreatDoorPk29
namespace Go.Proofs.YtjlbifpbdocahaaGreatDoor
open Go.RowKit

theorem TAt.cut22 {L : List Ent} (hG : Good L) {i j : Int} {t u r s : List UInt8} (h : TAt L i t) (k : TAt L j u) (ht : t ≠ []) (hu : u ≠ []) (e : t ++ r = u ++ s) : t = u ∧ r = s := by
  rcases h with ⟨_, rfl⟩ | ⟨n, _, hn, rfl⟩
  · exact absurd rfl ht
  · rcases k with ⟨_, rfl⟩ | ⟨m, _, hm, rfl⟩
    · exact absurd rfl hu
    · obtain ⟨e1, e2⟩ := enc_apart hG n m r s hn hm e
      exact ⟨by rw [e1], e2⟩
theorem fits_ne {l : List UInt8} (h : fitsL l ≠ []) : fitsL l = l := by
  unfold fitsL at *
  split
  · rename_i h1
    rw [if_pos h1] at h
    exact absurd rfl h
  · rfl
theorem sign_form {g k t : List UInt8} (h : refSignL g k t ≠ []) : refSignL g k t = 246 :: (pack4 g.length ++ (g ++ (k ++ t))) ∧ g.length ≤ 64 ∧ kindL k = 3 ∧ t ≠ [] := by
  unfold refSignL at *
  by_cases hc : textL g 64 = true ∧ kindL k = 3 ∧ t ≠ []
  · rw [if_pos hc] at h ⊢
    have h1 := of_decide_eq_true hc.1
    refine ⟨?_, by omega, hc.2.1, hc.2.2⟩
    rw [fits_ne h]
    simp [tagL, List.append_assoc]
  · rw [if_neg hc] at h
    exact absurd rfl h
theorem key_five {a : Int} (h : kindL (refKeyL a) = 3) : ∃ x : Nat, x ≤ 2147483647 ∧ a = x ∧ refKeyL a = 243 :: pack4 x := by
  by_cases hw : 0 ≤ a ∧ a ≤ 2147483647
  · refine ⟨a.toNat, by omega, by omega, ?_⟩
    have := keyL_key (x := a.toNat) (by omega)
    rwa [Int.toNat_of_nonneg hw.1] at this
  · rw [keyL_out (by omega)] at h
    simp [kindL] at h
/-- A signature is its algorithm, its key and what is signed. -/
theorem sign_inj {g g' t t' : List UInt8} {a a' : Int} (h : refSignL g (refKeyL a) t ≠ []) (h' : refSignL g' (refKeyL a') t' ≠ []) (e : refSignL g (refKeyL a) t = refSignL g' (refKeyL a') t') : g = g' ∧ a = a' ∧ t = t' := by
  obtain ⟨e1, l1, k1, _⟩ := sign_form h
  obtain ⟨e2, l2, k2, _⟩ := sign_form h'
  rw [e1, e2] at e
  simp only [List.cons.injEq, true_and] at e
  obtain ⟨h1, h2⟩ := pack4_app (by omega) (by omega) e
  obtain ⟨h3, h4⟩ := List.append_inj h2 h1
  obtain ⟨x, hx, rfl, ex⟩ := key_five k1
  obtain ⟨y, hy, rfl, ey⟩ := key_five k2
  rw [ex, ey, List.cons_append, List.cons_append] at h4
  simp only [List.cons.injEq, true_and] at h4
  obtain ⟨h5, h6⟩ := pack4_app (by omega) (by omega) h4
  exact ⟨h3, by omega, h6⟩
theorem data_form {u : List UInt8} (h : refDataL u ≠ []) : refDataL u = 241 :: (pack4 u.length ++ u) ∧ u.length ≤ 131072 := by
  unfold refDataL at *
  by_cases h1 : 131072 < u.length
  · rw [if_pos h1] at h
    exact absurd rfl h
  · rw [if_neg h1] at h ⊢
    rw [fits_ne h]
    exact ⟨by simp [tagL], by omega⟩
theorem data_cut {u v x y : List UInt8} (hu : refDataL u ≠ []) (hv : refDataL v ≠ []) (e : refDataL u ++ x = refDataL v ++ y) : u = v ∧ x = y := by
  obtain ⟨e1, l1⟩ := data_form hu
  obtain ⟨e2, l2⟩ := data_form hv
  rw [e1, e2, List.cons_append, List.cons_append, List.append_assoc, List.append_assoc] at e
  simp only [List.cons.injEq, true_and] at e
  obtain ⟨h1, h2⟩ := pack4_app (by omega) (by omega) e
  exact List.append_inj h2 h1
theorem req_form {s u v g k : List UInt8} (h : reqL s u v g k ≠ []) : reqL s u v g k = 250 :: (pack4 8 ++ (s ++ (refDataL [50] ++ (refDataL u ++ (refDataL v ++ (refDataL [112, 117, 98, 108, 105, 99, 107, 101, 121] ++ (refDataL [1] ++ (refDataL g ++ k)))))))) ∧ s ≠ [] ∧ refDataL u ≠ [] ∧ refDataL v ≠ [] ∧ refDataL g ≠ [] ∧ k ≠ [] := by
  unfold reqL refListL at *
  by_cases hc : ([s] ++ (askL22 u v g).map refDataL ++ [k]).length ≤ 32 ∧ (∀ x ∈ [s] ++ (askL22 u v g).map refDataL ++ [k], x ≠ []) ∧ 5 + ([s] ++ (askL22 u v g).map refDataL ++ [k]).flatten.length ≤ 131072
  · rw [if_pos hc]
    refine ⟨by simp [tagL, askL22], hc.2.1 _ (by simp), hc.2.1 _ (by simp [askL22]), hc.2.1 _ (by simp [askL22]), hc.2.1 _ (by simp [askL22]), hc.2.1 _ (by simp)⟩
  · rw [if_neg hc] at h
    exact absurd rfl h
/-- Equal signatures of users are of equal requests. -/
theorem user_iff {L : List Ent} (hG : Good L) {i i' : Int} {s s' u u' v v' g g' : List UInt8} {a a' : Int} (hs : TAt L i s) (hs' : TAt L i' s') (h : userL s u v g a ≠ []) (h' : userL s' u' v' g' a' ≠ []) : userL s u v g a = userL s' u' v' g' a' ↔ s = s' ∧ u = u' ∧ v = v' ∧ g = g' ∧ a = a' := by
  constructor
  · intro e
    unfold userL at h h' e
    obtain ⟨_, _, _, n1⟩ := sign_form h
    obtain ⟨_, _, _, n2⟩ := sign_form h'
    obtain ⟨h1, h2, h3⟩ := sign_inj h h' e
    obtain ⟨f1, a1, a2, a3, a4, a5⟩ := req_form n1
    obtain ⟨f2, b1, b2, b3, b4, b5⟩ := req_form n2
    rw [f1, f2] at h3
    simp only [List.cons.injEq, true_and, List.append_cancel_left_eq] at h3
    obtain ⟨c1, c2⟩ := TAt.cut22 hG hs hs' a1 b1 h3
    rw [List.append_cancel_left_eq] at c2
    obtain ⟨d1, d2⟩ := data_cut a2 b2 c2
    obtain ⟨d3, d4⟩ := data_cut a3 b3 d2
    exact ⟨c1, d1, d3, h1, h2⟩
  · rintro ⟨rfl, rfl, rfl, rfl, rfl⟩
    rfl
/-- No host's signature of a hash is a user's. -/
theorem host_user {s u v g t g' : List UInt8} {a a' : Int} (h : userL s u v g a ≠ []) : hostL g' a' (refHashL t) ≠ userL s u v g a := by
  intro e
  have h0 : hostL g' a' (refHashL t) ≠ [] := by rw [e]; exact h
  unfold hostL at h0 e
  unfold userL at h e
  obtain ⟨_, _, _, n1⟩ := sign_form h
  obtain ⟨_, _, _, n0⟩ := sign_form h0
  obtain ⟨_, _, h3⟩ := sign_inj h0 h e
  obtain ⟨f1, _⟩ := req_form n1
  rw [f1] at h3
  unfold refHashL at h3 n0
  by_cases ht : t = []
  · rw [if_pos ht] at n0
    exact absurd rfl n0
  · rw [if_neg ht] at h3 n0
    rw [fits_ne n0] at h3
    simp [tagL] at h3
end Go.Proofs.YtjlbifpbdocahaaGreatDoor
