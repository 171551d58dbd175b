/- Part 20 of what the statement wants. -/
import Derived.Test.YtgoinpibllomfaaDoorPk19
namespace Go.Proofs.YtgoinpibllomfaaDoor
open Go.RowKit

theorem plain_prefs : ∀ j < 8, oneP j (plainP j) = 0 := by
  have h : ∀ j, j < 8 → oneP j (plainP j) = 0
    | 0, _ => by decide +kernel
    | 1, _ => by decide +kernel
    | 2, _ => by decide +kernel
    | 3, _ => by decide +kernel
    | 4, _ => by decide +kernel
    | 5, _ => by decide +kernel
    | 6, _ => by decide +kernel
    | 7, _ => by decide +kernel
    | k + 8, h => absurd h (by omega)
  exact fun j hj => h j hj
theorem confO_srv {host : Int} {c : CfV} (h : PlainV true host c) : confO c (plainD true) = if whoB host then none else some ([confS25, ownS25], 5) := by
  have hN : manyO c = 4 := by unfold manyO; rw [h.sv]; rfl
  have p0 : partsO c (plainD true) 0 = none := by rw [partsS0 h.sv]; decide +kernel
  have p1 : partsO c (plainD true) 1 = none := by rw [partsS1 h.sv]; exact prefsO_ok plain_prefs
  have p2 : partsO c (plainD true) 2 = unlessP (whoB host) ownS25 5 := by rw [partsS2 h.sv, h.ow]; rfl
  have p3 : partsO c (plainD true) 3 = none := by rw [partsS3 h.sv, h.li]; decide +kernel
  unfold confO
  rw [hN]
  cases hw : whoB host with
  | true =>
    rw [hw] at p2
    rw [firstO_none fun j hj => by
      match j, hj with
      | 0, _ => exact p0
      | 1, _ => exact p1
      | 2, _ => exact p2
      | 3, _ => exact p3
      | j + 4, hj => exact absurd hj (by omega)]
    rfl
  | false =>
    rw [hw] at p2
    rw [firstO_some (k := 2) (fun j hj => by
      match j, hj with
      | 0, _ => exact p0
      | 1, _ => exact p1
      | j + 2, hj => exact absurd hj (by omega)) p2 (by omega)]
    rfl
theorem confO_cli {host : Int} {c : CfV} (h : PlainV false host c) : confO c (plainD false) = if whoB host then none else some ([confS25, peerS25], 5) := by
  have hN : manyO c = 8 := by unfold manyO; rw [h.sv]; rfl
  have p0 : partsO c (plainD false) 0 = none := by rw [partsC0 h.sv]; decide +kernel
  have p1 : partsO c (plainD false) 1 = none := by rw [partsC1 h.sv]; exact prefsO_ok plain_prefs
  have p2 : partsO c (plainD false) 2 = unlessP (whoB host) peerS25 5 := by rw [partsC2 h.sv, h.pe]; rfl
  have p3 : partsO c (plainD false) 3 = none := by rw [partsC3 h.sv]; decide +kernel
  have p4 : partsO c (plainD false) 4 = none := by rw [partsC4 h.sv]; decide +kernel
  have p5 : partsO c (plainD false) 5 = none := by rw [partsC5 h.sv]; decide +kernel
  have p6 : partsO c (plainD false) 6 = none := by rw [partsC6 h.sv]; decide +kernel
  have p7 : partsO c (plainD false) 7 = none := by rw [partsC7 h.sv, h.w0, h.w1, h.w2]; decide +kernel
  unfold confO
  rw [hN]
  cases hw : whoB host with
  | true =>
    rw [hw] at p2
    rw [firstO_none fun j hj => by
      match j, hj with
      | 0, _ => exact p0
      | 1, _ => exact p1
      | 2, _ => exact p2
      | 3, _ => exact p3
      | 4, _ => exact p4
      | 5, _ => exact p5
      | 6, _ => exact p6
      | 7, _ => exact p7
      | j + 8, hj => exact absurd hj (by omega)]
    rfl
  | false =>
    rw [hw] at p2
    rw [firstO_some (k := 2) (fun j hj => by
      match j, hj with
      | 0, _ => exact p0
      | 1, _ => exact p1
      | j + 2, hj => exact absurd hj (by omega)) p2 (by omega)]
    rfl
/-- The zero configuration. -/
def zeroV25 : CfV := { sv := false, so := ⟨#[]⟩, co := ⟨#[]⟩, a0 := none, n0 := 0, c0 := 0, a1 := none, n1 := 0, c1 := 0, a2 := none, n2 := 0, c2 := 0, a3 := none, n3 := 0, c3 := 0, a4 := none, n4 := 0, c4 := 0, a5 := none, n5 := 0, c5 := 0, a6 := none, n6 := 0, c6 := 0, a7 := none, n7 := 0, c7 := 0, aa := none, na := 0, ca := 0, ow := 0, ag := none, ng := 0, cg := 0, li := 0, pe := 0, us := ⟨#[]⟩, ak := none, nk := 0, ck := 0, ex := false, gu := false, w0 := 0, w1 := 0, w2 := 0 }
def zeroD25 : CfL := ⟨[], [], [], fun _ => [], [], [], []⟩
theorem zero_at25 (w : World) : CfAt w zeroV25 zeroD25 := ⟨rfl, rfl, rfl, fun k hk => by
  match k, hk with
  | 0, _ => exact TextsAt.nil w
  | 1, _ => exact TextsAt.nil w
  | 2, _ => exact TextsAt.nil w
  | 3, _ => exact TextsAt.nil w
  | 4, _ => exact TextsAt.nil w
  | 5, _ => exact TextsAt.nil w
  | 6, _ => exact TextsAt.nil w
  | 7, _ => exact TextsAt.nil w
  | k + 8, h => exact absurd h (by omega), TextsAt.nil w, GrantsAt.nil w, IdsAt.nil w⟩
theorem zero_sized25 : CfSized zeroD25 := ⟨by decide, by decide, by decide, fun k _ => ⟨by simp [zeroD25], by simp [zeroD25]⟩, ⟨by decide, by simp [zeroD25]⟩, ⟨by decide, by simp [zeroD25]⟩, by decide⟩
theorem zero_wrong25 : confO zeroV25 zeroD25 = some ([confS25, versionS], 1) := by
  unfold confO
  rw [firstO_some (k := 0) (q := ([versionS], 1)) (fun j hj => absurd hj (by omega)) (by decide +kernel) (by decide)]
  rfl
theorem plain_sized25 (b : Bool) : CfSized (plainD b) := by
  have hp : ∀ k < 8, (plainP k).length ≤ 1000 ∧ ∀ x ∈ plainP k, x.length ≤ 10000 := by
    have h : ∀ k < 8, (plainP k).length ≤ 3 ∧ ∀ x ∈ plainP k, x.length ≤ 40 := by decide +kernel
    exact fun k hk => ⟨Nat.le_trans (h k hk).1 (by omega), fun x hx => Nat.le_trans ((h k hk).2 x hx) (by omega)⟩
  cases b with
  | true => exact ⟨by decide, by decide, by decide, hp, by decide, by decide, by decide⟩
  | false => exact ⟨by decide, by decide, by decide, hp, by decide, by decide, by decide⟩
end Go.Proofs.YtgoinpibllomfaaDoor
