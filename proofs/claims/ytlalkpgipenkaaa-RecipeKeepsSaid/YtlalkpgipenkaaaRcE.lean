/- Layer 14: steps one behind the other, in shapes (nothing of the program is run here). -/
import Derived.Test.YtlalkpgipenkaaaRcD
namespace Go.Proofs.Ytlalkpgipenkaaa
open Go.RowKit

/-- What holds of what the arena grows into, step by step. -/
structure Grown (L L' : List Ent) (n : Nat) : Prop where
  good : Good L'
  pre : L <+: L'
  len : L'.length ≤ L.length + n
theorem Grown.refl {L : List Ent} (hG : Good L) (n : Nat) : Grown L L n := ⟨hG, List.prefix_refl _, Nat.le_add_right _ _⟩
theorem MadeOf.grown {L : List Ent} {P : Shp → Prop} {m : Int × List Ent} (h : MadeOf L P m) (hG : Good L) : Grown L m.2 1 := ⟨(h.good hG).1, (h.good hG).2.1, (h.good hG).2.2⟩
theorem deriveO_grown {L : List Ent} (hG : Good L) (hlen : L.length < 1073741824) (s : List UInt8) (x y z : Int) : Grown L (deriveO L s x y z).2 1 := by
  cases s with
  | nil => exact Grown.refl hG 1
  | cons ch r => exact (derive_made hG hlen ch.toNat (by have := UInt8.toNat_lt ch; omega) x y z).grown hG
theorem sealO_grown {L : List Ent} (hG : Good L) (hlen : L.length < 1073741824) (x c y : Int) : Grown L (sealO L x c y).2 1 := by
  unfold sealO
  split
  · exact Grown.refl hG 1
  · exact (seal_made hG hlen c.toNat (by omega) x y).grown hG
theorem addM_grown {L : List Ent} (hG : Good L) (hlen : L.length < 1073741824) (x y : Int) : Grown L (addM L x y).2 1 := by
  unfold addM
  split
  · exact (list_made hG hlen _).grown hG
  · exact Grown.refl hG 1
theorem ResTo.grown {L : List Ent} {had : Int} {known sent rs : List Int} {o : OpR} {m : Int × List Ent} (hG : Good L) (hlen : L.length < 1073741824) (h : ResTo L had known sent rs o m) : Grown L m.2 1 := by
  by_cases k0 : o.kind = 0
  · rw [ResTo.k0 k0] at h; subst h; exact (data_made hG hlen _).grown hG
  by_cases k1 : o.kind = 1
  · rw [ResTo.k1 k1] at h; subst h; exact (nonce_made hG hlen _ _).grown hG
  by_cases k2 : o.kind = 2
  · rw [ResTo.k2 k2] at h; subst h; exact Grown.refl hG 1
  by_cases k3 : o.kind = 3
  · rw [ResTo.k3 k3] at h; subst h; exact Grown.refl hG 1
  by_cases k4 : o.kind = 4
  · rw [ResTo.k4 k4] at h; subst h; exact (base_made hG hlen _).grown hG
  by_cases k5 : o.kind = 5
  · rw [ResTo.k5 k5] at h; exact (exp_made hG hlen h).grown hG
  by_cases k6 : o.kind = 6
  · rw [ResTo.k6 k6] at h; subst h; exact (pub_made hG hlen _).grown hG
  by_cases k7 : o.kind = 7
  · rw [ResTo.k7 k7] at h; subst h; exact (sign_made hG hlen _ _ _).grown hG
  by_cases k8 : o.kind = 8
  · rw [ResTo.k8 k8] at h; subst h; exact (hash_made hG hlen _).grown hG
  by_cases k9 : o.kind = 9
  · rw [ResTo.k9 k9] at h; subst h; exact deriveO_grown hG hlen _ _ _ _
  by_cases k10 : o.kind = 10
  · rw [ResTo.k10 k10] at h; subst h; exact sealO_grown hG hlen _ _ _
  by_cases k11 : o.kind = 11
  · rw [ResTo.k11 k11] at h; subst h; exact Grown.refl hG 1
  by_cases k12 : o.kind = 12
  · rw [ResTo.k12 k12] at h; subst h; exact (list_made hG hlen _).grown hG
  by_cases k13 : o.kind = 13
  · rw [ResTo.k13 k13] at h; subst h; exact addM_grown hG hlen _ _
  by_cases k14 : o.kind = 14
  · rw [ResTo.k14 k14] at h; subst h; exact Grown.refl hG 1
  rw [ResTo.more (by omega)] at h
  subst h
  exact Grown.refl hG 1

/-- What steps come to, one behind the other, from the arena L0 on. -/
inductive StepsTo (L0 : List Ent) (had : Int) (known sent : List Int) : List OpR → List Ent → List Int → Prop
  | nil : StepsTo L0 had known sent [] L0 []
  | snoc {xs : List OpR} {L : List Ent} {rs : List Int} {o : OpR} {m : Int × List Ent} (h : StepsTo L0 had known sent xs L rs) (k : ResTo L had known sent rs o m) : StepsTo L0 had known sent (xs ++ [o]) m.2 (rs ++ [m.1])
theorem StepsTo.lens {L0 : List Ent} {had : Int} {known sent : List Int} {xs : List OpR} {L : List Ent} {rs : List Int} (h : StepsTo L0 had known sent xs L rs) : rs.length = xs.length := by
  induction h with
  | nil => rfl
  | snoc h k ih => simp [ih]
theorem StepsTo.grown {L0 : List Ent} {had : Int} {known sent : List Int} (hG : Good L0) {xs : List OpR} {L : List Ent} {rs : List Int} (h : StepsTo L0 had known sent xs L rs) (hlen : L0.length + xs.length < 1073741824) : Grown L0 L xs.length := by
  induction h with
  | nil => exact Grown.refl hG 0
  | snoc h k ih =>
    simp only [List.length_append, List.length_cons, List.length_nil] at hlen ⊢
    have g := ih (by omega)
    have := k.grown g.good (by have := g.len; omega)
    exact ⟨this.good, g.pre.trans this.pre, by have := this.len; have := g.len; omega⟩
end Go.Proofs.Ytlalkpgipenkaaa
