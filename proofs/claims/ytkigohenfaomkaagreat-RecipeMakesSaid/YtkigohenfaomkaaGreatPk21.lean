/- Part 21 of what the statement wants. -/
import Derived.Laws.Concat
import Derived.Test.YtkigohenfaomkaaGreatPk18
import Derived.Test.YtkigohenfaomkaaGreatPk19
import Derived.Test.YtkigohenfaomkaaGreatPk20
namespace Go.Proofs.YtkigohenfaomkaaGreat
open Go.RowKit

theorem built_made {L : List Ent} (hG : Good L) (hlen : L.length < 1073741824) (hd : Hd) (hk : hd.kind ≤ 10) (ha : hd.a ≤ 4294967295) (hb : hd.b ≤ 4294967295) (l : List Int) (hm : l.length ≤ 65536)
    (hgs : ∀ d : List Nat, l = d.map Int.ofNat → (∀ t ∈ d, t < L.length) → GoodSh L (hd.with d)) :
    built L hd (ownOf hd.kind) l = (-1, L) ∨ ∃ d : List Nat, l = d.map Int.ofNat ∧ (∀ t ∈ d, t < L.length) ∧ Got L (hd.with d) (built L hd (ownOf hd.kind) l) := by
  by_cases hc : inAll L l = true ∧ ownOf hd.kind + hd.s.size + sizes L l ≤ 131072
  · right
    have hin := inAll_mem hc.1
    have hl : l = (l.map Int.toNat).map Int.ofNat := by
      rw [List.map_map]
      conv => lhs; rw [← List.map_id l]
      refine List.map_congr_left fun t ht => ?_
      have := hin t ht
      simp only [id, Function.comp, Int.ofNat_eq_natCast]
      omega
    have hd2 : ∀ t ∈ l.map Int.toNat, t < L.length := by
      intro t ht
      obtain ⟨i, hi, rfl⟩ := List.mem_map.1 ht
      have := hin i hi
      omega
    refine ⟨l.map Int.toNat, hl, hd2, ?_⟩
    have := built_got hG hd hk ha hb (l := l.map Int.toNat) (by rw [List.length_map]; exact hm) hd2 (hgs _ hl hd2) (by rw [← sizes_ofNat, ← hl]; exact hc.2) hlen
    rw [← hl] at this
    exact this
  · left
    unfold built
    rw [if_neg hc]

/-- Nothing, or a term of such a shape. -/
def MadeOf (L : List Ent) (P : Shp → Prop) (m : Int × List Ent) : Prop := m = (-1, L) ∨ ∃ sh, P sh ∧ Got L sh m
theorem MadeOf.good {L : List Ent} {P : Shp → Prop} {m : Int × List Ent} (h : MadeOf L P m) (hG : Good L) : Good m.2 ∧ L <+: m.2 ∧ m.2.length ≤ L.length + 1 := by
  rcases h with rfl | ⟨sh, _, hg⟩
  · exact ⟨hG, List.prefix_refl _, Nat.le_succ _⟩
  · exact ⟨hg.good, hg.pre, hg.len⟩
theorem nil_of_map {d : List Nat} (h : ([] : List Int) = d.map Int.ofNat) : d = [] := by cases d <;> simp at h ⊢
theorem data_made {L : List Ent} (hG : Good L) (hlen : L.length < 1073741824) (s : ByteArray) : MadeOf L (fun sh => sh = ⟨1, 0, 0, s, []⟩) (dataM L s) := by
  rcases built_made hG hlen ⟨1, 0, 0, s⟩ (by simp) (by simp) (by simp) [] (by simp) (fun d hd _ => by rw [nil_of_map hd]; exact .data _) with h | ⟨d, hd, _, h⟩
  · exact .inl h
  · rw [nil_of_map hd] at h
    exact .inr ⟨_, rfl, h⟩
theorem nonce_made {L : List Ent} (hG : Good L) (hlen : L.length < 1073741824) (x y : Int) : MadeOf L (fun sh => ∃ b, isNum x = true ∧ sh = ⟨2, x.toNat, b, noStr, []⟩) (nonceM L x y) := by
  by_cases h : isNum x = true ∧ isNum y = true
  · exact .inr ⟨_, ⟨_, h.1, rfl⟩, nonce_got hG hlen h.1 h.2⟩
  · exact .inl (nonce_none h)
theorem base_made {L : List Ent} (hG : Good L) (hlen : L.length < 1073741824) (s : ByteArray) : MadeOf L (fun sh => sh = ⟨5, 0, 0, s, []⟩) (baseM L s) := by
  by_cases h : 1 ≤ s.size ∧ s.size ≤ 2100
  · exact .inr ⟨_, rfl, base_got hG hlen h.1 h.2⟩
  · exact .inl (base_none h)
theorem one_of_map {x : Int} {d : List Nat} (h : [x] = d.map Int.ofNat) : ∃ n : Nat, d = [n] ∧ x = n := by
  match d, h with
  | [n], h => simp at h; exact ⟨n, rfl, h⟩
theorem two_of_map {x y : Int} {d : List Nat} (h : [x, y] = d.map Int.ofNat) : ∃ n m : Nat, d = [n, m] ∧ x = n ∧ y = m := by
  match d, h with
  | [n, m], h => simp at h; exact ⟨n, m, rfl, h.1, h.2⟩
theorem three_of_map {x y z : Int} {d : List Nat} (h : [x, y, z] = d.map Int.ofNat) : ∃ n m k : Nat, d = [n, m, k] := by
  match d, h with
  | [n, m, k], _ => exact ⟨n, m, k, rfl⟩
theorem kindN_of {L : List Ent} {n : Nat} {k : Nat} (h : kindAt L (n : Int) = (k : Int)) : kindN L n = k := by rw [kindAt_nat] at h; omega
theorem pub_made {L : List Ent} (hG : Good L) (hlen : L.length < 1073741824) (x : Int) : MadeOf L (fun sh => sh.kind = 4) (pubM L x) := by
  unfold pubM
  by_cases hk : kindAt L x = 3
  · rw [if_pos hk]
    rcases built_made hG hlen ⟨4, 0, 0, noStr⟩ (by simp) (by simp) (by simp) [x] (by simp) (fun d hd _ => by
      obtain ⟨n, rfl, rfl⟩ := one_of_map hd
      exact .pub n (kindN_of hk)) with h | ⟨d, hd, _, h⟩
    · exact .inl h
    · exact .inr ⟨_, rfl, h⟩
  · rw [if_neg hk]; exact .inl rfl
theorem sign_made {L : List Ent} (hG : Good L) (hlen : L.length < 1073741824) (s : ByteArray) (x y : Int) : MadeOf L (fun sh => sh.kind = 6) (signM L s x y) := by
  unfold signM
  by_cases hk : (1 ≤ s.size ∧ s.size ≤ 64) ∧ kindAt L x = 3
  · rw [if_pos hk]
    rcases built_made hG hlen ⟨6, 0, 0, s⟩ (by simp) (by simp) (by simp) [x, y] (by simp) (fun d hd ht => by
      obtain ⟨n, m, rfl, rfl, rfl⟩ := two_of_map hd
      exact .sig s n m hk.1.1 hk.1.2 (kindN_of hk.2) (ht m (by simp))) with h | ⟨d, hd, _, h⟩
    · exact .inl h
    · exact .inr ⟨_, rfl, h⟩
  · rw [if_neg hk]; exact .inl rfl
theorem hash_made {L : List Ent} (hG : Good L) (hlen : L.length < 1073741824) (x : Int) : MadeOf L (fun sh => sh.kind = 7 ∧ ∃ n : Nat, x = n ∧ sh.args = [n]) (hashM L x) := by
  rcases built_made hG hlen ⟨7, 0, 0, noStr⟩ (by simp) (by simp) (by simp) [x] (by simp) (fun d hd ht => by
    obtain ⟨n, rfl, rfl⟩ := one_of_map hd
    exact .hash n (ht n (by simp))) with h | ⟨d, hd, _, h⟩
  · exact .inl h
  · obtain ⟨n, rfl, rfl⟩ := one_of_map hd
    exact .inr ⟨_, ⟨rfl, n, rfl, rfl⟩, h⟩
theorem derive_made {L : List Ent} (hG : Good L) (hlen : L.length < 1073741824) (c : Nat) (hc : c ≤ 255) (x y z : Int) : MadeOf L (fun sh => sh.kind = 8) (deriveM L c x y z) := by
  rcases built_made hG hlen ⟨8, 0, c, noStr⟩ (by simp) (by simp) (by simp; omega) [x, y, z] (by simp) (fun d hd ht => by
    obtain ⟨n, m, k, rfl⟩ := three_of_map hd
    exact .derive c n m k hc (ht n (by simp)) (ht m (by simp)) (ht k (by simp))) with h | ⟨d, hd, _, h⟩
  · exact .inl h
  · exact .inr ⟨_, rfl, h⟩
theorem seal_made {L : List Ent} (hG : Good L) (hlen : L.length < 1073741824) (n : Nat) (hn : n ≤ 4294967295) (x y : Int) : MadeOf L (fun sh => ∃ p q : Nat, x = p ∧ y = q ∧ sh = ⟨9, 0, n, noStr, [p, q]⟩) (sealM L x n y) := by
  rcases built_made hG hlen ⟨9, 0, n, noStr⟩ (by simp) (by simp) (by simp; omega) [x, y] (by simp) (fun d hd ht => by
    obtain ⟨a, b, rfl, rfl, rfl⟩ := two_of_map hd
    exact .sealed a n b hn (ht a (by simp)) (ht b (by simp))) with h | ⟨d, hd, _, h⟩
  · exact .inl h
  · obtain ⟨a, b, rfl, rfl, rfl⟩ := two_of_map hd
    exact .inr ⟨_, ⟨a, b, rfl, rfl, rfl⟩, h⟩
theorem list_made {L : List Ent} (hG : Good L) (hlen : L.length < 1073741824) (l : List Int) : MadeOf L (fun sh => ∃ d : List Nat, l = d.map Int.ofNat ∧ sh = ⟨10, 0, 0, noStr, d⟩) (listM L l) := by
  unfold listM
  by_cases hk : l.length ≤ 32
  · rw [if_pos hk]
    rcases built_made hG hlen ⟨10, 0, 0, noStr⟩ (by simp) (by simp) (by simp) l (by omega) (fun d hd ht => .list d (by rw [hd] at hk; simpa using hk) ht) with h | ⟨d, hd, _, h⟩
    · exact .inl h
    · exact .inr ⟨_, ⟨d, hd, rfl⟩, h⟩
  · rw [if_neg hk]; exact .inl rfl
theorem ints_inj2 : ∀ {a b : List Nat}, a.map Int.ofNat = b.map Int.ofNat → a = b
  | [], [], _ => rfl
  | [], _ :: _, h => by simp at h
  | _ :: _, [], h => by simp at h
  | x :: a, y :: b, h => by
    simp only [List.map_cons, List.cons.injEq, Int.ofNat_eq_natCast] at h
    rw [ints_inj2 h.2, show x = y by omega]
theorem exp_made {L : List Ent} (hG : Good L) (hlen : L.length < 1073741824) {x y : Int} {m : Int × List Ent} (h : ExpTo L x y m) : MadeOf L (fun sh => ∃ s d, sh = ⟨5, 0, 0, s, d⟩ ∧ d ≠ []) m := by
  unfold ExpTo at h
  split at h
  · rename_i hk
    obtain ⟨e, he, h⟩ := h
    split at h
    · rename_i hl
      obtain ⟨d, hp, hs, rfl⟩ := h
      obtain ⟨n, rfl, hlt, _⟩ := kindAt_some (L := L) (i := x) (by rw [hk.1]; decide)
      obtain ⟨xn, rfl, hlt2, _⟩ := kindAt_some (L := L) (i := y) (by rw [hk.2]; decide)
      rw [at_nat] at he
      have hgs := hG.sh n e he
      have hke : e.sh.kind = 5 := by
        have := kindN_of (k := 5) hk.1
        unfold kindN at this
        rw [he] at this
        simpa using this
      obtain ⟨sh, z⟩ := e
      simp only at hgs hke hp hl ⊢
      cases hgs with
      | share s l h1 h2 h3 h4 h5 =>
        have hdk : ∀ t ∈ d, kindN L t = 2 := fun t ht => by
          have := hp.mem_iff.1 ht
          rcases List.mem_append.1 this with h | h
          · exact h4 t h
          · simp at h; rw [h]; exact kindN_of hk.2
        rcases built_made hG hlen ⟨5, 0, 0, s⟩ (by simp) (by simp) (by simp) (d.map Int.ofNat) (by rw [List.length_map, hp.length_eq]; simp at hl ⊢; omega) (fun d2 hd2 _ => by
          have : d2 = d := (ints_inj2 hd2).symm
          subst this
          exact .share s d2 h1 h2 (by rw [hp.length_eq]; simp at hl ⊢; omega) hdk hs) with h | ⟨d2, hd2, _, h⟩
        · exact .inl h
        · exact .inr ⟨_, ⟨_, _, rfl, by
            have : d2 = d := (ints_inj2 hd2).symm
            subst this
            intro e
            have := hp.length_eq
            rw [e] at this
            simp at this⟩, h⟩
      | _ => simp at hke
    · exact .inl h
  · exact .inl h
end Go.Proofs.YtkigohenfaomkaaGreat

namespace Go.Proofs.YtkigohenfaomkaaGreat
open Go.RowKit

/-- What holds of what the arena grows into, step by step. -/
structure Grown (L L' : List Ent) (n : Nat) : Prop where
  good : Good L'
  pre : L <+: L'
  len : L'.length ≤ L.length + n
theorem Grown.refl {L : List Ent} (hG : Good L) (n : Nat) : Grown L L n := ⟨hG, List.prefix_refl _, Nat.le_add_right _ _⟩
theorem MadeOf.grown {L : List Ent} {P : Shp → Prop} {m : Int × List Ent} (h : MadeOf L P m) (hG : Good L) : Grown L m.2 1 := ⟨(h.good hG).1, (h.good hG).2.1, (h.good hG).2.2⟩
theorem deriveO_grown {L : List Ent} (hG : Good L) (hlen : L.length < 1073741824) (s : List UInt8) (x y z : Int) : Grown L (deriveO L s x y z).2 1 := by
  cases s with
  | nil => exact Grown.refl hG 1
  | cons ch r => exact (derive_made hG hlen ch.toNat (by have := UInt8.toNat_lt ch; omega) x y z).grown hG
theorem sealO_grown {L : List Ent} (hG : Good L) (hlen : L.length < 1073741824) (x c y : Int) : Grown L (sealO L x c y).2 1 := by
  unfold sealO
  split
  · exact Grown.refl hG 1
  · exact (seal_made hG hlen c.toNat (by omega) x y).grown hG
theorem addM_grown {L : List Ent} (hG : Good L) (hlen : L.length < 1073741824) (x y : Int) : Grown L (addM L x y).2 1 := by
  unfold addM
  split
  · exact (list_made hG hlen _).grown hG
  · exact Grown.refl hG 1
theorem ResTo.grown {L : List Ent} {had : Int} {known sent rs : List Int} {o : OpR} {m : Int × List Ent} (hG : Good L) (hlen : L.length < 1073741824) (h : ResTo L had known sent rs o m) : Grown L m.2 1 := by
  by_cases k0 : o.kind = 0
  · rw [ResTo.k0 k0] at h; subst h; exact (data_made hG hlen _).grown hG
  by_cases k1 : o.kind = 1
  · rw [ResTo.k1 k1] at h; subst h; exact (nonce_made hG hlen _ _).grown hG
  by_cases k2 : o.kind = 2
  · rw [ResTo.k2 k2] at h; subst h; exact Grown.refl hG 1
  by_cases k3 : o.kind = 3
  · rw [ResTo.k3 k3] at h; subst h; exact Grown.refl hG 1
  by_cases k4 : o.kind = 4
  · rw [ResTo.k4 k4] at h; subst h; exact (base_made hG hlen _).grown hG
  by_cases k5 : o.kind = 5
  · rw [ResTo.k5 k5] at h; exact (exp_made hG hlen h).grown hG
  by_cases k6 : o.kind = 6
  · rw [ResTo.k6 k6] at h; subst h; exact (pub_made hG hlen _).grown hG
  by_cases k7 : o.kind = 7
  · rw [ResTo.k7 k7] at h; subst h; exact (sign_made hG hlen _ _ _).grown hG
  by_cases k8 : o.kind = 8
  · rw [ResTo.k8 k8] at h; subst h; exact (hash_made hG hlen _).grown hG
  by_cases k9 : o.kind = 9
  · rw [ResTo.k9 k9] at h; subst h; exact deriveO_grown hG hlen _ _ _ _
  by_cases k10 : o.kind = 10
  · rw [ResTo.k10 k10] at h; subst h; exact sealO_grown hG hlen _ _ _
  by_cases k11 : o.kind = 11
  · rw [ResTo.k11 k11] at h; subst h; exact Grown.refl hG 1
  by_cases k12 : o.kind = 12
  · rw [ResTo.k12 k12] at h; subst h; exact (list_made hG hlen _).grown hG
  by_cases k13 : o.kind = 13
  · rw [ResTo.k13 k13] at h; subst h; exact addM_grown hG hlen _ _
  by_cases k14 : o.kind = 14
  · rw [ResTo.k14 k14] at h; subst h; exact Grown.refl hG 1
  rw [ResTo.more (by omega)] at h
  subst h
  exact Grown.refl hG 1

/-- What steps come to, one behind the other, from the arena L0 on. -/
inductive StepsTo (L0 : List Ent) (had : Int) (known sent : List Int) : List OpR → List Ent → List Int → Prop
  | nil : StepsTo L0 had known sent [] L0 []
  | snoc {xs : List OpR} {L : List Ent} {rs : List Int} {o : OpR} {m : Int × List Ent} (h : StepsTo L0 had known sent xs L rs) (k : ResTo L had known sent rs o m) : StepsTo L0 had known sent (xs ++ [o]) m.2 (rs ++ [m.1])
theorem StepsTo.lens {L0 : List Ent} {had : Int} {known sent : List Int} {xs : List OpR} {L : List Ent} {rs : List Int} (h : StepsTo L0 had known sent xs L rs) : rs.length = xs.length := by
  induction h with
  | nil => rfl
  | snoc h k ih => simp [ih]
theorem StepsTo.grown {L0 : List Ent} {had : Int} {known sent : List Int} (hG : Good L0) {xs : List OpR} {L : List Ent} {rs : List Int} (h : StepsTo L0 had known sent xs L rs) (hlen : L0.length + xs.length < 1073741824) : Grown L0 L xs.length := by
  induction h with
  | nil => exact Grown.refl hG 0
  | snoc h k ih =>
    simp only [List.length_append, List.length_cons, List.length_nil] at hlen ⊢
    have g := ih (by omega)
    have := k.grown g.good (by have := g.len; omega)
    exact ⟨this.good, g.pre.trans this.pre, by have := this.len; have := g.len; omega⟩
end Go.Proofs.YtkigohenfaomkaaGreat

namespace Go.Proofs.YtkigohenfaomkaaGreat
open Go.RowKit

set_option maxRecDepth 100000 in
theorem refU32_any (n : Nat) (hn : n < 4294967296) (w : World) : Calls Tryz.prog 71 #[.int .i64 n] w fun e w' => e = .returned (.string (bs (pack4 n))) ∧ Below w.heap.size w w' := by
  have hc := pack4_cells n hn
  have h0 : (n : Int) / 16777216 % 256 = (n : Int) / 16777216 := by omega
  have hcv := run_string_new w (pack4 n) (by simp [pack4]) #[.int .u8 ((n : Int) / 16777216 % 256), .int .u8 ((n : Int) / 65536 % 256), .int .u8 ((n : Int) / 256 % 256), .int .u8 ((n : Int) % 256)] (by rw [← hc, h0])
  have hl4 : (pack4 n).length = 4 := rfl
  rw [hl4] at hcv
  clear hc hl4 h0
  go_enter Tryz.func71, Tryz.ntmps71
  go_wp2
  go_ret
  exact ⟨rfl, (Below.refl _ _).alloc (Nat.le_refl _) _⟩
end Go.Proofs.YtkigohenfaomkaaGreat

namespace Go.Proofs.YtkigohenfaomkaaGreat
open Go.RowKit

def kindL : List UInt8 → Nat
  | [] => 0
  | b :: _ => if b.toNat < 241 ∨ 250 < b.toNat then 0 else b.toNat - 240

set_option maxRecDepth 100000 in
theorem refKind_any (l : List UInt8) (w : World) : Calls Tryz.prog 73 #[.string (bs l)] w fun e w' => e = .returned (.int .i64 (kindL l : Int)) ∧ w' = w := by
  cases l with
  | nil =>
    rw [show bs ([] : List UInt8) = ⟨#[]⟩ from rfl]
    go_enter Tryz.func73, Tryz.ntmps73
    go_wp2
    go_ret
    exact ⟨rfl, rfl⟩
  | cons b r =>
    have hi0 : ∀ W : World, (Instr.index 9 (.string (bs (b :: r))) (.int .i64 0)).run Tryz.prog W = .ok (.int .u8 (b.toNat : Int)) W := fun W => index_bs (b :: r) 0 (by simp) W
    have hsz := bs_size (b :: r)
    simp only [List.length_cons] at hsz
    have hq0 : ((bs (b :: r)).size : Int) ≠ 0 := by omega
    have hb := UInt8.toNat_lt b
    have HK : Hid (kindL (b :: r) = if b.toNat < 241 ∨ 250 < b.toNat then 0 else b.toNat - 240) := rfl
    clear hsz
    generalize bs (b :: r) = S at *
    generalize kindL (b :: r) = kk at *
    generalize b.toNat = n at *
    have hqz : ((S.size : Int) == 0) = false := by rw [beq_eq_false_iff_ne]; exact hq0
    clear hq0
    by_cases h1 : n < 241
    · have HE : Hid (kk = 0) := by show kk = 0; rw [HK.out, if_pos (.inl h1)]
      have q1 : decide ((n : Int) < 241) = true := decide_eq_true (by omega)
      go_enter Tryz.func73, Tryz.ntmps73
      go_wp2
      go_ret
      exact ⟨by rw [HE.out]; rfl, rfl⟩
    · have q1 : decide ((n : Int) < 241) = false := decide_eq_false (by omega)
      by_cases h2 : 250 < n
      · have HE : Hid (kk = 0) := by show kk = 0; rw [HK.out, if_pos (.inr h2)]
        have q2 : decide ((n : Int) > 250) = true := decide_eq_true (by omega)
        go_enter Tryz.func73, Tryz.ntmps73
        go_wp2
        go_ret
        exact ⟨by rw [HE.out]; rfl, rfl⟩
      · have HE : Hid ((kk : Int) = (n : Int) - 240) := by show (kk : Int) = _; rw [HK.out, if_neg (by omega)]; omega
        have q2 : decide ((n : Int) > 250) = false := decide_eq_false (by omega)
        go_enter Tryz.func73, Tryz.ntmps73
        go_wp2
        go_ret
        exact ⟨by rw [HE.out]; rfl, rfl⟩
end Go.Proofs.YtkigohenfaomkaaGreat
