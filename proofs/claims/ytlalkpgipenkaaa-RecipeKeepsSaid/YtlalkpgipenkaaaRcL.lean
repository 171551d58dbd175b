/- Layer 14: the first terms of RecipeKeeps; the key's code. -/
import Derived.Test.YtlalkpgipenkaaaRcK
namespace Go.Proofs.Ytlalkpgipenkaaa
open Go.RowKit

theorem key_first (kk : Nat) (h : kk ≤ 9) : ∃ e : Ent, keyM [] (kk : Int) = (0, [e]) ∧ e.sh = ⟨3, kk, 0, noStr, []⟩ := by
  have hb := built_got Good.nil ⟨3, kk, 0, noStr⟩ (by simp) (by simp; omega) (by simp) (l := []) (by simp) (by simp) (.key kk (by omega)) (by show ownOf 3 + noStr.size + sumN [] [] ≤ 131072; decide) (by simp)
  have he : keyM [] (kk : Int) = built [] ⟨3, kk, 0, noStr⟩ (ownOf 3) (List.map Int.ofNat []) := by
    unfold keyM
    rw [if_pos (isNum_iff.2 (by omega))]
    rfl
  rw [he]
  obtain ⟨n, e, h1, h2, h3, h4⟩ := hb.at_
  rcases h4 with h4 | ⟨h4, h5⟩
  · rw [h4] at h2; simp at h2
  · refine ⟨e, ?_, h3⟩
    apply Prod.ext
    · rw [h1, h5]; rfl
    · rw [h4]; rfl
section
variable {B A n kk : Nat} {w0 W : World}
theorem kpKey (h : Ar B w0 A [] 0 W) (hk : kk ≤ 9) : Calls Try.prog 23 #[.pointer (some ⟨A, 0, none⟩), .int .i64 kk] W fun r w' => ∃ e : Ent, r = .returned (.int .i64 0) ∧ e.sh = ⟨3, kk, 0, noStr, []⟩ ∧ Ar B w0 A [e] 1 w' := by
  obtain ⟨e, he, hs⟩ := key_first kk hk
  refine (h.makes (fun F ha => Key_any ha (by simp) kk) (key_made h.good (by simp) kk)).mono fun r w' ⟨h1, _, h3⟩ => ?_
  rw [he] at h1 h3
  exact ⟨e, h1, hs, h3⟩
theorem kpNonce {e : Ent} (h : Ar B w0 A [e] 1 W) (hs : e.sh = ⟨3, kk, 0, noStr, []⟩) (a b : Int) (ha : 0 < a) : Calls Try.prog 24 #[.pointer (some ⟨A, 0, none⟩), .int .i64 a, .int .i64 b] W fun r w' => ∃ m : Int × List Ent, r = .returned (.int .i64 m.1) ∧ m.2[0]? = some e ∧ BadZ m.2 m.1 ∧ Ar B w0 A m.2 2 w' := by
  refine (h.makes (fun F ha => Nonce_any ha (by simp) a b) (nonce_made h.good (by simp) a b)).mono fun r w' ⟨h1, h2, h3⟩ => ⟨_, h1, pre_at (h2.grown h.good).pre rfl, ?_, h3⟩
  rcases h2 with h2 | ⟨sh, ⟨b', hn, rfl⟩, hg⟩
  · rw [h2]; exact .inl rfl
  · obtain ⟨n, e', e1, e2, e3, _⟩ := hg.at_
    refine .inr ⟨n, e1, e', e2, .inr ?_⟩
    rw [e3]
    exact ⟨rfl, by show a.toNat ≠ 0; omega⟩
theorem kpHid {L : List Ent} {e : Ent} {x : Int} (h : Ar B w0 A L 2 W) (he : L[0]? = some e) (hs : e.sh = ⟨3, kk, 0, noStr, []⟩) (hx : BadZ L x) (s : ByteArray) (hsz : s.size ≤ 1000000) : Calls Try.prog 25 #[.pointer (some ⟨A, 0, none⟩), .string s] W fun r w' => ∃ m : Int × List Ent, r = .returned (.int .i64 m.1) ∧ Kp B w0 A kk m.1 s x [] m.2 3 w' := by
  have hl : L.length < 1073741824 := by have := h.len; omega
  exact (h.makes (fun F ha => Data_any ha hl s (by omega)) (data_made h.good hl s)).mono fun r w' ⟨h1, h2, h3⟩ => ⟨_, h1, h3, KSt.start he hs hx h2 rfl⟩
end
theorem rcEncodable {L : List Ent} (h : Good L) : Encodable L := fun n e he => by
  have := h.sh n e he
  obtain ⟨sh, z⟩ := e
  simp only at this ⊢
  cases this <;> simp
  assumption
theorem key_code {L : List Ent} {kk : Nat} {e : Ent} (he : L[0]? = some e) (hs : e.sh = ⟨3, kk, 0, noStr, []⟩) : kindL (enc L 0) = 3 ∧ (enc L 0).length = 5 := by
  have hq : enc L 0 = headL e.sh ++ (e.sh.args.map (enc L)).flatten := enc_eq he (by rw [hs]; simp)
  rw [hq, hs]
  exact ⟨rfl, rfl⟩
theorem kpCode {B A kk : Nat} {L : List Ent} {F : Nat → Prop} {W : World} {e : Ent} (ha : ArenaAt B A L F W) (hG : Good L) (he : L[0]? = some e) (hs : e.sh = ⟨3, kk, 0, noStr, []⟩) : Calls Try.prog 38 #[.pointer (some ⟨A, 0, none⟩), .int .i64 0] W fun r w' => r = .returned (.string (bs (enc L 0))) ∧ Below W.heap.size W w' :=
  Encode_any ha (rcEncodable hG) (n := 0) he (by rw [(key_code he hs).2]; decide)

theorem OpsAt.take {w : World} {ao : Option Addr} {n cap : Nat} {l : List OpR} (h : OpsAt w (.slice ao n cap) l) (k : Nat) (hk : k ≤ l.length) (c : Nat) : OpsAt w (.slice ao k c) (l.take k) := by
  obtain ⟨ao', cap', e, h⟩ := h
  injection e with e1 e2 e3
  subst e1
  refine ⟨ao, c, by rw [List.length_take, Nat.min_eq_left hk], fun hne => ?_⟩
  have hl : l ≠ [] := by rintro rfl; simp at hne
  obtain ⟨b, off, h1, h2, h3⟩ := h hl
  refine ⟨b, off, h1, h2, fun j x hj => h3 j x ?_⟩
  by_cases hjk : j < k
  · rwa [List.getElem?_take_of_lt hjk] at hj
  · rw [List.getElem?_eq_none (by simp; omega)] at hj
    simp at hj
end Go.Proofs.Ytlalkpgipenkaaa
