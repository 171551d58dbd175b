/- Part 23 of what the statement wants. -/
import Derived.Test.YtkdljicagepebaaGreatDoorPk22
namespace Go.Proofs.YtkdljicagepebaaGreatDoor
open Go.RowKit

theorem plain_prefs : ∀ j < 8, oneP j (plainP j) = 0 := by
  have h : ∀ j, j < 8 → oneP j (plainP j) = 0
    | 0, _ => by decide +kernel
    | 1, _ => by decide +kernel
    | 2, _ => by decide +kernel
    | 3, _ => by decide +kernel
    | 4, _ => by decide +kernel
    | 5, _ => by decide +kernel
    | 6, _ => by decide +kernel
    | 7, _ => by decide +kernel
    | k + 8, h => absurd h (by omega)
  exact fun j hj => h j hj
theorem confO_srv {host : Int} {c : CfV} (h : PlainV true host c) : confO c (plainD true) = if whoB host then none else some ([confS25, ownS25], 5) := by
  have hN : manyO c = 4 := by unfold manyO; rw [h.sv]; rfl
  have p0 : partsO c (plainD true) 0 = none := by rw [partsS0 h.sv]; decide +kernel
  have p1 : partsO c (plainD true) 1 = none := by rw [partsS1 h.sv]; exact prefsO_ok plain_prefs
  have p2 : partsO c (plainD true) 2 = unlessP (whoB host) ownS25 5 := by rw [partsS2 h.sv, h.ow]; rfl
  have p3 : partsO c (plainD true) 3 = none := by rw [partsS3 h.sv, h.li]; decide +kernel
  unfold confO
  rw [hN]
  cases hw : whoB host with
  | true =>
    rw [hw] at p2
    rw [firstO_none fun j hj => by
      match j, hj with
      | 0, _ => exact p0
      | 1, _ => exact p1
      | 2, _ => exact p2
      | 3, _ => exact p3
      | j + 4, hj => exact absurd hj (by omega)]
    rfl
  | false =>
    rw [hw] at p2
    rw [firstO_some (k := 2) (fun j hj => by
      match j, hj with
      | 0, _ => exact p0
      | 1, _ => exact p1
      | j + 2, hj => exact absurd hj (by omega)) p2 (by omega)]
    rfl
theorem confO_cli {host : Int} {c : CfV} (h : PlainV false host c) : confO c (plainD false) = if whoB host then none else some ([confS25, peerS25], 5) := by
  have hN : manyO c = 8 := by unfold manyO; rw [h.sv]; rfl
  have p0 : partsO c (plainD false) 0 = none := by rw [partsC0 h.sv]; decide +kernel
  have p1 : partsO c (plainD false) 1 = none := by rw [partsC1 h.sv]; exact prefsO_ok plain_prefs
  have p2 : partsO c (plainD false) 2 = unlessP (whoB host) peerS25 5 := by rw [partsC2 h.sv, h.pe]; rfl
  have p3 : partsO c (plainD false) 3 = none := by rw [partsC3 h.sv]; decide +kernel
  have p4 : partsO c (plainD false) 4 = none := by rw [partsC4 h.sv]; decide +kernel
  have p5 : partsO c (plainD false) 5 = none := by rw [partsC5 h.sv]; decide +kernel
  have p6 : partsO c (plainD false) 6 = none := by rw [partsC6 h.sv]; decide +kernel
  have p7 : partsO c (plainD false) 7 = none := by rw [partsC7 h.sv, h.w0, h.w1, h.w2]; decide +kernel
  unfold confO
  rw [hN]
  cases hw : whoB host with
  | true =>
    rw [hw] at p2
    rw [firstO_none fun j hj => by
      match j, hj with
      | 0, _ => exact p0
      | 1, _ => exact p1
      | 2, _ => exact p2
      | 3, _ => exact p3
      | 4, _ => exact p4
      | 5, _ => exact p5
      | 6, _ => exact p6
      | 7, _ => exact p7
      | j + 8, hj => exact absurd hj (by omega)]
    rfl
  | false =>
    rw [hw] at p2
    rw [firstO_some (k := 2) (fun j hj => by
      match j, hj with
      | 0, _ => exact p0
      | 1, _ => exact p1
      | j + 2, hj => exact absurd hj (by omega)) p2 (by omega)]
    rfl
/-- The zero configuration. -/
def zeroV25 : CfV := { sv := false, so := ⟨#[]⟩, co := ⟨#[]⟩, a0 := none, n0 := 0, c0 := 0, a1 := none, n1 := 0, c1 := 0, a2 := none, n2 := 0, c2 := 0, a3 := none, n3 := 0, c3 := 0, a4 := none, n4 := 0, c4 := 0, a5 := none, n5 := 0, c5 := 0, a6 := none, n6 := 0, c6 := 0, a7 := none, n7 := 0, c7 := 0, aa := none, na := 0, ca := 0, ow := 0, ag := none, ng := 0, cg := 0, li := 0, pe := 0, us := ⟨#[]⟩, ak := none, nk := 0, ck := 0, ex := false, gu := false, w0 := 0, w1 := 0, w2 := 0 }
def zeroD25 : CfL := ⟨[], [], [], fun _ => [], [], [], []⟩
theorem zero_at25 (w : World) : CfAt w zeroV25 zeroD25 := ⟨rfl, rfl, rfl, fun k hk => by
  match k, hk with
  | 0, _ => exact TextsAt.nil w
  | 1, _ => exact TextsAt.nil w
  | 2, _ => exact TextsAt.nil w
  | 3, _ => exact TextsAt.nil w
  | 4, _ => exact TextsAt.nil w
  | 5, _ => exact TextsAt.nil w
  | 6, _ => exact TextsAt.nil w
  | 7, _ => exact TextsAt.nil w
  | k + 8, h => exact absurd h (by omega), TextsAt.nil w, GrantsAt.nil w, IdsAt.nil w⟩
theorem zero_sized25 : CfSized zeroD25 := ⟨by decide, by decide, by decide, fun k _ => ⟨by simp [zeroD25], by simp [zeroD25]⟩, ⟨by decide, by simp [zeroD25]⟩, ⟨by decide, by simp [zeroD25]⟩, by decide⟩
theorem zero_wrong25 : confO zeroV25 zeroD25 = some ([confS25, versionS], 1) := by
  unfold confO
  rw [firstO_some (k := 0) (q := ([versionS], 1)) (fun j hj => absurd hj (by omega)) (by decide +kernel) (by decide)]
  rfl
theorem plain_sized25 (b : Bool) : CfSized (plainD b) := by
  have hp : ∀ k < 8, (plainP k).length ≤ 1000 ∧ ∀ x ∈ plainP k, x.length ≤ 10000 := by
    have h : ∀ k < 8, (plainP k).length ≤ 3 ∧ ∀ x ∈ plainP k, x.length ≤ 40 := by decide +kernel
    exact fun k hk => ⟨Nat.le_trans (h k hk).1 (by omega), fun x hx => Nat.le_trans ((h k hk).2 x hx) (by omega)⟩
  cases b with
  | true => exact ⟨by decide, by decide, by decide, hp, by decide, by decide, by decide⟩
  | false => exact ⟨by decide, by decide, by decide, hp, by decide, by decide, by decide⟩
end Go.Proofs.YtkdljicagepebaaGreatDoor

namespace Go.Proofs.YtkdljicagepebaaGreatDoor
open Go.RowKit

/-- What the document answers. -/
def tellO (o : Option (List ByteArray × Int)) : Int × ByteArray := match o with
  | none => (0, ⟨#[]⟩)
  | some q => (q.2, atP q.1)
theorem confO_ok {c : CfV} {d : CfL} (h : ∀ j < manyO c, partsO c d j = none) : confO c d = none := by
  unfold confO
  rw [firstO_none h]
  rfl
theorem confO_at {c : CfV} {d : CfL} {k : Nat} {q : List ByteArray × Int} (h : ∀ j < k, partsO c d j = none) (hk : partsO c d k = some q) (hn : k < manyO c) : confO c d = some (confS25 :: q.1, q.2) := by
  unfold confO
  rw [firstO_some h hk hn]
  rfl
theorem manyS {c : CfV} (h : c.sv = true) : manyO c = 4 := by unfold manyO; rw [h]; rfl
theorem manyC {c : CfV} (h : c.sv = false) : manyO c = 8 := by unfold manyO; rw [h]; rfl
theorem atP_prefs25 (x : ByteArray) : atP [confS25, prefsS, x] = ⟨#[99, 111, 110, 102, 32, 112, 114, 101, 102, 115, 32]⟩ ++ x ++ ⟨#[32]⟩ := by
  unfold atP
  simp only [List.foldl_cons, List.foldl_nil]
  rw [show (⟨#[]⟩ : ByteArray) ++ confS25 ++ ⟨#[32]⟩ ++ prefsS ++ ⟨#[32]⟩ = ⟨#[99, 111, 110, 102, 32, 112, 114, 101, 102, 115, 32]⟩ from by decide +kernel]
theorem atP_deny25 (x : ByteArray) : atP [confS25, denyS, x] = ⟨#[99, 111, 110, 102, 32, 100, 101, 110, 121, 32]⟩ ++ x ++ ⟨#[32]⟩ := by
  unfold atP
  simp only [List.foldl_cons, List.foldl_nil]
  rw [show (⟨#[]⟩ : ByteArray) ++ confS25 ++ ⟨#[32]⟩ ++ denyS ++ ⟨#[32]⟩ = ⟨#[99, 111, 110, 102, 32, 100, 101, 110, 121, 32]⟩ from by decide +kernel]
theorem gate_algs (al : List (List UInt8)) : gateZ [] al 1 = algsZ al ∧ (algsZ al ≠ 0 → gateI [] al 1 = 1) := by
  have hg : grantsZ [] = 0 := by decide
  unfold gateZ gateI
  rw [hg]
  by_cases h : algsZ al = 0
  · simp [h]
  · simp [h]
/-- What a client's parts say, behind the version and the preferences. -/
def cliR (A B C D : Bool) (E : Int) (G : Bool) : Int × ByteArray :=
  if A = false then (5, ⟨#[99, 111, 110, 102, 32, 112, 101, 101, 114, 32]⟩) else if B = false then (3, ⟨#[99, 111, 110, 102, 32, 117, 115, 101, 114, 32]⟩) else if C = false then (2, ⟨#[99, 111, 110, 102, 32, 107, 101, 121, 115, 32]⟩)
  else if D = false then (5, ⟨#[99, 111, 110, 102, 32, 107, 101, 121, 115, 32]⟩) else if E ≠ 0 then (E, ⟨#[99, 111, 110, 102, 32, 100, 101, 110, 121, 32, 97, 108, 103, 115, 32]⟩) else if G = false then (5, ⟨#[99, 111, 110, 102, 32, 119, 105, 115, 104, 32]⟩) else (0, ⟨#[]⟩)
theorem tell_cli {c : CfV} {d : CfL} (hc : c.sv = false) (h0 : lnOk d.so d.co = true) (h1 : prefsO d.p = none) :
    tellO (confO c d) = cliR (whoB c.pe) (userP d.us) (decide (d.ks.length ≤ 8)) (d.ks.all whoB) (algsZ d.al) (rightB c.w0 c.w1 c.w2) := by
  have p0 : partsO c d 0 = none := by rw [partsC0 hc, h0]; rfl
  have p1 : partsO c d 1 = none := by rw [partsC1 hc]; exact h1
  have p2 := partsC2 (d := d) hc
  have p3 := partsC3 (d := d) hc
  have p4 := partsC4 (d := d) hc
  have p5 := partsC5 (d := d) hc
  have p6 := partsC6 (d := d) hc
  have p7 := partsC7 (d := d) hc
  have hN := manyC hc
  have ha : atP [confS25, peerS25] = ⟨#[99, 111, 110, 102, 32, 112, 101, 101, 114, 32]⟩ := by decide +kernel
  have hb : atP [confS25, userS25] = ⟨#[99, 111, 110, 102, 32, 117, 115, 101, 114, 32]⟩ := by decide +kernel
  have hk : atP [confS25, keysS25] = ⟨#[99, 111, 110, 102, 32, 107, 101, 121, 115, 32]⟩ := by decide +kernel
  have hd : atP [confS25, denyS, gateS 1] = ⟨#[99, 111, 110, 102, 32, 100, 101, 110, 121, 32, 97, 108, 103, 115, 32]⟩ := by decide +kernel
  have hw : atP [confS25, wishS25] = ⟨#[99, 111, 110, 102, 32, 119, 105, 115, 104, 32]⟩ := by decide +kernel
  cases A : whoB c.pe with
  | false =>
    rw [A] at p2
    rw [confO_at (k := 2) (fun j hj => by
      match j, hj with
      | 0, _ => exact p0
      | 1, _ => exact p1
      | j + 2, hj => exact absurd hj (by omega)) p2 (by omega)]
    simp only [tellO, cliR, if_pos, ha]
  | true =>
  rw [A] at p2
  cases B : userP d.us with
  | false =>
    rw [B] at p3
    rw [confO_at (k := 3) (fun j hj => by
      match j, hj with
      | 0, _ => exact p0
      | 1, _ => exact p1
      | 2, _ => exact p2
      | j + 3, hj => exact absurd hj (by omega)) p3 (by omega)]
    simp [tellO, cliR, hb]
  | true =>
  rw [B] at p3
  cases C : decide (d.ks.length ≤ 8) with
  | false =>
    rw [C] at p4
    rw [confO_at (k := 4) (fun j hj => by
      match j, hj with
      | 0, _ => exact p0
      | 1, _ => exact p1
      | 2, _ => exact p2
      | 3, _ => exact p3
      | j + 4, hj => exact absurd hj (by omega)) p4 (by omega)]
    simp [tellO, cliR, hk]
  | true =>
  rw [C] at p4
  cases D : d.ks.all whoB with
  | false =>
    rw [D] at p5
    rw [confO_at (k := 5) (fun j hj => by
      match j, hj with
      | 0, _ => exact p0
      | 1, _ => exact p1
      | 2, _ => exact p2
      | 3, _ => exact p3
      | 4, _ => exact p4
      | j + 5, hj => exact absurd hj (by omega)) p5 (by omega)]
    simp [tellO, cliR, hk]
  | true =>
  rw [D] at p5
  obtain ⟨g1, g2⟩ := gate_algs d.al
  by_cases E : algsZ d.al = 0
  · have p6' : partsO c d 6 = none := by rw [p6]; unfold gateO; rw [g1, if_pos E]
    cases G : rightB c.w0 c.w1 c.w2 with
    | false =>
      rw [G] at p7
      rw [confO_at (k := 7) (fun j hj => by
        match j, hj with
        | 0, _ => exact p0
        | 1, _ => exact p1
        | 2, _ => exact p2
        | 3, _ => exact p3
        | 4, _ => exact p4
        | 5, _ => exact p5
        | 6, _ => exact p6'
        | j + 7, hj => exact absurd hj (by omega)) p7 (by omega)]
      simp [tellO, cliR, hw, E]
    | true =>
      rw [G] at p7
      rw [confO_ok (fun j hj => by
        rw [hN] at hj
        match j, hj with
        | 0, _ => exact p0
        | 1, _ => exact p1
        | 2, _ => exact p2
        | 3, _ => exact p3
        | 4, _ => exact p4
        | 5, _ => exact p5
        | 6, _ => exact p6'
        | 7, _ => exact p7
        | j + 8, hj => exact absurd hj (by omega))]
      simp [tellO, cliR, E]
  · have p6' : partsO c d 6 = some ([denyS, gateS 1], algsZ d.al) := by rw [p6]; unfold gateO; rw [g1, if_neg E, g2 E]
    rw [confO_at (k := 6) (fun j hj => by
      match j, hj with
      | 0, _ => exact p0
      | 1, _ => exact p1
      | 2, _ => exact p2
      | 3, _ => exact p3
      | 4, _ => exact p4
      | 5, _ => exact p5
      | j + 6, hj => exact absurd hj (by omega)) p6' (by omega)]
    simp [tellO, cliR, hd, E]
theorem tell_ver {c : CfV} {d : CfL} (h0 : lnOk d.so d.co = false) : tellO (confO c d) = (1, ⟨#[99, 111, 110, 102, 32, 118, 101, 114, 115, 105, 111, 110, 32]⟩) := by
  have p0 : partsO c d 0 = some ([versionS], 1) := by
    cases hs : c.sv with
    | true => rw [partsS0 hs, h0]; rfl
    | false => rw [partsC0 hs, h0]; rfl
  have hn : 0 < manyO c := by unfold manyO; split <;> omega
  rw [confO_at (k := 0) (fun j hj => absurd hj (by omega)) p0 hn]
  simp only [tellO, show atP [confS25, versionS] = ⟨#[99, 111, 110, 102, 32, 118, 101, 114, 115, 105, 111, 110, 32]⟩ from by decide +kernel]
theorem tell_pref {c : CfV} {d : CfL} (h0 : lnOk d.so d.co = true) {m : Nat} (hb : BadAt d.p m) : tellO (confO c d) = (oneP m (d.p m), ⟨#[99, 111, 110, 102, 32, 112, 114, 101, 102, 115, 32]⟩ ++ bs (wordZ (m : Int)) ++ ⟨#[32]⟩) := by
  have p0 : partsO c d 0 = none := by
    cases hs : c.sv with
    | true => rw [partsS0 hs, h0]; rfl
    | false => rw [partsC0 hs, h0]; rfl
  have p1 : partsO c d 1 = some ([prefsS, bs (wordZ (m : Int))], oneP m (d.p m)) := by
    cases hs : c.sv with
    | true => rw [partsS1 hs, prefsO_bad hb]
    | false => rw [partsC1 hs, prefsO_bad hb]
  have hn : 1 < manyO c := by unfold manyO; split <;> omega
  rw [confO_at (k := 1) (fun j hj => by
    match j, hj with
    | 0, _ => exact p0
    | j + 1, hj => exact absurd hj (by omega)) p1 hn]
  simp only [tellO, atP_prefs25]
theorem tell_srv {c : CfV} {d : CfL} (hc : c.sv = true) (h0 : lnOk d.so d.co = true) (h1 : prefsO d.p = none) :
    tellO (confO c d) = if whoB c.ow = false then (5, ⟨#[99, 111, 110, 102, 32, 111, 119, 110, 32]⟩) else if gateZ d.gr d.al c.li ≠ 0 then (gateZ d.gr d.al c.li, ⟨#[99, 111, 110, 102, 32, 100, 101, 110, 121, 32]⟩ ++ gateS (gateI d.gr d.al c.li) ++ ⟨#[32]⟩) else (0, ⟨#[]⟩) := by
  have p0 : partsO c d 0 = none := by rw [partsS0 hc, h0]; rfl
  have p1 : partsO c d 1 = none := by rw [partsS1 hc]; exact h1
  have p2 := partsS2 (d := d) hc
  have p3 := partsS3 (d := d) hc
  have hN := manyS hc
  have ha : atP [confS25, ownS25] = ⟨#[99, 111, 110, 102, 32, 111, 119, 110, 32]⟩ := by decide +kernel
  cases A : whoB c.ow with
  | false =>
    rw [A] at p2
    rw [confO_at (k := 2) (fun j hj => by
      match j, hj with
      | 0, _ => exact p0
      | 1, _ => exact p1
      | j + 2, hj => exact absurd hj (by omega)) p2 (by omega)]
    simp only [tellO, if_pos, ha]
  | true =>
  rw [A] at p2
  by_cases E : gateZ d.gr d.al c.li = 0
  · have p3' : partsO c d 3 = none := by rw [p3]; unfold gateO; rw [if_pos E]
    rw [confO_ok (fun j hj => by
      rw [hN] at hj
      match j, hj with
      | 0, _ => exact p0
      | 1, _ => exact p1
      | 2, _ => exact p2
      | 3, _ => exact p3'
      | j + 4, hj => exact absurd hj (by omega))]
    simp [tellO, E]
  · have p3' : partsO c d 3 = some ([denyS, gateS (gateI d.gr d.al c.li)], gateZ d.gr d.al c.li) := by rw [p3]; unfold gateO; rw [if_neg E]
    rw [confO_at (k := 3) (fun j hj => by
      match j, hj with
      | 0, _ => exact p0
      | 1, _ => exact p1
      | 2, _ => exact p2
      | j + 3, hj => exact absurd hj (by omega)) p3' (by omega)]
    simp [tellO, E, atP_deny25]
end Go.Proofs.YtkdljicagepebaaGreatDoor
