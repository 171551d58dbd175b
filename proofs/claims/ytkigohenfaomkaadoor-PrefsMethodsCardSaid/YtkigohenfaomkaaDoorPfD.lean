/- Layer 15: the law PrefsMethods. -/
import Derived.Test.YtkigohenfaomkaaDoorPfB
import Derived.Test.YtkigohenfaomkaaDoorNSm
namespace Go.Proofs.YtkigohenfaomkaaDoor
open Go.RowKit

theorem texts_new (W : World) (l : List (List UInt8)) : TextsAt (W.alloc (.cells (l.map fun x => Value.string (bs x)).toArray 9)) (.slice (some ⟨W.heap.size, 0, none⟩) l.length l.length) (l.map bs) :=
  ⟨some ⟨W.heap.size, 0, none⟩, l.length, by rw [List.length_map], fun _ => ⟨_, 0, rfl, by rw [World.size_alloc]; omega, fun k x hk => by
    have h := (Holds.new W 9 (l.map fun x => Value.string (bs x)).toArray).cell (0 + k)
    rw [h]
    rw [List.getElem?_map] at hk
    cases hp : l[k]? with
    | none => rw [hp] at hk; cases hk
    | some y =>
      rw [hp] at hk
      obtain rfl := Option.some.inj hk
      simp [hp]⟩⟩
/-- Plain, its eight slices written out. -/
theorem pfPlain_out {w : World} (hT : Tab15 w) : Calls Tryd.prog 20 #[] w fun e w' => ∃ a0 c0 a1 c1 a2 c2 a3 c3 a4 c4 a5 c5 a6 c6 a7 c7, e = .returned (.agg #[.slice a0 3 c0, .slice a1 2 c1, .slice a2 2 c2, .slice a3 2 c3, .slice a4 2 c4, .slice a5 2 c5, .slice a6 1 c6, .slice a7 1 c7]) ∧ (∀ k < 8, TextsAt w' (match k with | 0 => .slice a0 3 c0 | 1 => .slice a1 2 c1 | 2 => .slice a2 2 c2 | 3 => .slice a3 2 c3 | 4 => .slice a4 2 c4 | 5 => .slice a5 2 c5 | 6 => .slice a6 1 c6 | _ => .slice a7 1 c7) ((plainP k).map bs)) ∧ Below w.heap.size w w' :=
  (pfPlain_any hT).mono (by
    rintro e w' ⟨u, rfl, hu, hb⟩
    obtain ⟨a0, c0, e0⟩ := hu.sl2 0 (by omega)
    obtain ⟨a1, c1, e1⟩ := hu.sl2 1 (by omega)
    obtain ⟨a2, c2, e2⟩ := hu.sl2 2 (by omega)
    obtain ⟨a3, c3, e3⟩ := hu.sl2 3 (by omega)
    obtain ⟨a4, c4, e4⟩ := hu.sl2 4 (by omega)
    obtain ⟨a5, c5, e5⟩ := hu.sl2 5 (by omega)
    obtain ⟨a6, c6, e6⟩ := hu.sl2 6 (by omega)
    obtain ⟨a7, c7, e7⟩ := hu.sl2 7 (by omega)
    refine ⟨a0, c0, a1, c1, a2, c2, a3, c3, a4, c4, a5, c5, a6, c6, a7, c7, ?_, fun k hk => ?_, hb⟩
    · unfold agg8
      rw [e0, e1, e2, e3, e4, e5, e6, e7]
      rfl
    · have h := hu.at_ k hk
      match k, hk with
      | 0, _ => rw [e0] at h; exact h
      | 1, _ => rw [e1] at h; exact h
      | 2, _ => rw [e2] at h; exact h
      | 3, _ => rw [e3] at h; exact h
      | 4, _ => rw [e4] at h; exact h
      | 5, _ => rw [e5] at h; exact h
      | 6, _ => rw [e6] at h; exact h
      | 7, _ => rw [e7] at h; exact h
      | k + 8, hk => exact absurd hk (by omega))

/-- The law's eight comparisons. -/
structure Sames (w3 : World) (b : Nat) (a0 a1 a2 a3 a4 a5 a6 a7 : Option Addr) (c0 c1 c2 c3 c4 c5 c6 c7 : Nat) : Prop where
  s0 : (∀ W, Below w3.heap.size w3 W → Calls Tryd.prog 14 #[.slice a0 3 c0, .slice (some ⟨b, 0, none⟩) 3 3] W fun e w' => e = .returned (.bool true) ∧ Below W.heap.size W w')
  s1 : (∀ W, Below w3.heap.size w3 W → Calls Tryd.prog 14 #[.slice a1 2 c1, .slice (some ⟨W.heap.size, 0, none⟩) 2 2] (W.alloc (.cells #[.string ⟨#[115, 115, 104, 45, 101, 100, 50, 53, 53, 49, 57]⟩, .string ⟨#[114, 115, 97, 45, 115, 104, 97, 50, 45, 50, 53, 54]⟩] 9)) fun e w' => e = .returned (.bool true) ∧ Below W.heap.size W w')
  s2 : (∀ W, Below w3.heap.size w3 W → Calls Tryd.prog 14 #[.slice a2 2 c2, .slice (some ⟨W.heap.size, 0, none⟩) 2 2] (W.alloc (.cells #[.string ⟨#[97, 101, 115, 50, 53, 54, 45, 103, 99, 109]⟩, .string ⟨#[97, 101, 115, 49, 50, 56, 45, 99, 116, 114]⟩] 9)) fun e w' => e = .returned (.bool true) ∧ Below W.heap.size W w')
  s3 : (∀ W, Below w3.heap.size w3 W → Calls Tryd.prog 14 #[.slice a3 2 c3, .slice a2 2 c2] W fun e w' => e = .returned (.bool true) ∧ Below W.heap.size W w')
  s4 : (∀ W, Below w3.heap.size w3 W → Calls Tryd.prog 14 #[.slice a4 2 c4, .slice (some ⟨W.heap.size, 0, none⟩) 2 2] (W.alloc (.cells #[.string ⟨#[104, 109, 97, 99, 45, 115, 104, 97, 50, 45, 50, 53, 54]⟩, .string ⟨#[104, 109, 97, 99, 45, 115, 104, 97, 50, 45, 53, 49, 50]⟩] 9)) fun e w' => e = .returned (.bool true) ∧ Below W.heap.size W w')
  s5 : (∀ W, Below w3.heap.size w3 W → Calls Tryd.prog 14 #[.slice a5 2 c5, .slice a4 2 c4] W fun e w' => e = .returned (.bool true) ∧ Below W.heap.size W w')
  s6 : (∀ W, Below w3.heap.size w3 W → Calls Tryd.prog 14 #[.slice a6 1 c6, .slice (some ⟨W.heap.size, 0, none⟩) 1 1] (W.alloc (.cells #[.string ⟨#[110, 111, 110, 101]⟩] 9)) fun e w' => e = .returned (.bool true) ∧ Below W.heap.size W w')
  s7 : (∀ W, Below w3.heap.size w3 W → Calls Tryd.prog 14 #[.slice a7 1 c7, .slice a6 1 c6] W fun e w' => e = .returned (.bool true) ∧ Below W.heap.size W w')
theorem sames_of {w3 : World} {b : Nat} {a0 a1 a2 a3 a4 a5 a6 a7 : Option Addr} {c0 c1 c2 c3 c4 c5 c6 c7 : Nat} (hn : TextsAt w3 (.slice (some ⟨b, 0, none⟩) 3 3) (names3.map bs)) (ht : ∀ k < 8, TextsAt w3 (match k with | 0 => .slice a0 3 c0 | 1 => .slice a1 2 c1 | 2 => .slice a2 2 c2 | 3 => .slice a3 2 c3 | 4 => .slice a4 2 c4 | 5 => .slice a5 2 c5 | 6 => .slice a6 1 c6 | _ => .slice a7 1 c7) ((plainP k).map bs)) : Sames w3 b a0 a1 a2 a3 a4 a5 a6 a7 c0 c1 c2 c3 c4 c5 c6 c7 where
  s0 := fun W hb => by
    have h := same_any ((ht 0 (by omega)).below hb) (hn.below hb) (by rw [List.length_map]; decide)
    rw [show plainP 0 = names3 from rfl, decide_eq_true rfl] at h
    exact h
  s1 := fun W hb => by
    have hb1 : Below W.heap.size W (W.alloc (.cells ((plainP 1).map fun x => Value.string (bs x)).toArray 9)) := (Below.refl _ _).alloc (Nat.le_refl _) _
    have h := same_any (((ht 1 (by omega)).below hb).below hb1) (texts_new W (plainP 1)) (by rw [List.length_map]; decide)
    rw [decide_eq_true rfl] at h
    exact h.mono fun e w' ⟨h1, h2⟩ => ⟨h1, hb1.trans (h2.mono hb1.size)⟩
  s2 := fun W hb => by
    have hb1 : Below W.heap.size W (W.alloc (.cells ((plainP 2).map fun x => Value.string (bs x)).toArray 9)) := (Below.refl _ _).alloc (Nat.le_refl _) _
    have h := same_any (((ht 2 (by omega)).below hb).below hb1) (texts_new W (plainP 2)) (by rw [List.length_map]; decide)
    rw [decide_eq_true rfl] at h
    exact h.mono fun e w' ⟨h1, h2⟩ => ⟨h1, hb1.trans (h2.mono hb1.size)⟩
  s3 := fun W hb => by
    have h := same_any ((ht 3 (by omega)).below hb) ((ht 2 (by omega)).below hb) (by rw [List.length_map]; decide)
    rw [show plainP 3 = plainP 2 from rfl, decide_eq_true rfl] at h
    exact h
  s4 := fun W hb => by
    have hb1 : Below W.heap.size W (W.alloc (.cells ((plainP 4).map fun x => Value.string (bs x)).toArray 9)) := (Below.refl _ _).alloc (Nat.le_refl _) _
    have h := same_any (((ht 4 (by omega)).below hb).below hb1) (texts_new W (plainP 4)) (by rw [List.length_map]; decide)
    rw [decide_eq_true rfl] at h
    exact h.mono fun e w' ⟨h1, h2⟩ => ⟨h1, hb1.trans (h2.mono hb1.size)⟩
  s5 := fun W hb => by
    have h := same_any ((ht 5 (by omega)).below hb) ((ht 4 (by omega)).below hb) (by rw [List.length_map]; decide)
    rw [show plainP 5 = plainP 4 from rfl, decide_eq_true rfl] at h
    exact h
  s6 := fun W hb => by
    have hb1 : Below W.heap.size W (W.alloc (.cells ((plainP 6).map fun x => Value.string (bs x)).toArray 9)) := (Below.refl _ _).alloc (Nat.le_refl _) _
    have h := same_any (((ht 6 (by omega)).below hb).below hb1) (texts_new W (plainP 6)) (by rw [List.length_map]; decide)
    rw [decide_eq_true rfl] at h
    exact h.mono fun e w' ⟨h1, h2⟩ => ⟨h1, hb1.trans (h2.mono hb1.size)⟩
  s7 := fun W hb => by
    have h := same_any ((ht 7 (by omega)).below hb) ((ht 6 (by omega)).below hb) (by rw [List.length_map]; decide)
    rw [show plainP 7 = plainP 6 from rfl, decide_eq_true rfl] at h
    exact h

theorem boxed {w3 : World} {a0 a1 a2 a3 a4 a5 a6 a7 : Option Addr} {c0 c1 c2 c3 c4 c5 c6 c7 : Nat} : ∀ W, Below (w3.alloc (.cells #[.slice a0 3 c0, .slice a1 2 c1, .slice a2 2 c2, .slice a3 2 c3, .slice a4 2 c4, .slice a5 2 c5, .slice a6 1 c6, .slice a7 1 c7] 24)).heap.size (w3.alloc (.cells #[.slice a0 3 c0, .slice a1 2 c1, .slice a2 2 c2, .slice a3 2 c3, .slice a4 2 c4, .slice a5 2 c5, .slice a6 1 c6, .slice a7 1 c7] 24)) W → ∀ k v, (#[.slice a0 3 c0, .slice a1 2 c1, .slice a2 2 c2, .slice a3 2 c3, .slice a4 2 c4, .slice a5 2 c5, .slice a6 1 c6, .slice a7 1 c7] : Array Value)[k]? = some v → W.cell? ⟨w3.heap.size, k, none⟩ = some v := fun W hb k v hv =>
  (hb.cell (p := ⟨w3.heap.size, k, none⟩) (by show w3.heap.size < _; rw [World.size_alloc]; omega)).trans (by rw [(Holds.new w3 24 #[.slice a0 3 c0, .slice a1 2 c1, .slice a2 2 c2, .slice a3 2 c3, .slice a4 2 c4, .slice a5 2 c5, .slice a6 1 c6, .slice a7 1 c7]).cell k]; exact hv)
theorem names_cell {w : World} {b : Nat} (h : TextsAt w (.slice (some ⟨b, 0, none⟩) 3 3) (names3.map bs)) (k : Nat) (y : List UInt8) (hy : names3[k]? = some y) : w.cell? ⟨b, k, none⟩ = some (.string (bs y)) := by
  obtain ⟨_, _, e1, h1⟩ := h
  injection e1 with e1 _ _
  subst e1
  obtain ⟨_, _, e2, _, hc⟩ := h1 (by simp [names3])
  injection e2 with e2
  injection e2 with e2 e3
  subst e2 e3
  have := hc k (bs y) (by rw [List.getElem?_map, hy]; rfl)
  rwa [Nat.zero_add] at this
theorem methods_cases (z : Int) : z = 1 ∨ z = 2 ∨ z = 3 ∨ z < 1 ∨ 3 < z := by omega
theorem want_out {z : Int} (h : z < 1 ∨ 3 < z) : methodZ z = [] := by
  unfold methodZ
  rw [if_neg (by omega), if_neg (by omega), if_neg (by omega)]

set_option maxHeartbeats 8000000 in
set_option maxRecDepth 100000 in
theorem prefsMethods_any {w : World} (hT : Tab15 w) (x : List UInt8) (hx : x.length ≤ maxLen) (z : Int) (sv : Bool) :
    Calls Tryd.prog 5 #[.string (bs x), .int .i64 z, .bool sv] w fun e w' => e = .returned (.bool true) ∧ Below w.heap.size w w' := by
  have hsz := bs_size x
  unfold maxLen at hx
  have HA := Lib.hid (fun (W : World) (hb : Below w.heap.size w W) => awake15_any (hT.below hb))
  by_cases h100 : 100 < x.length
  · have q : decide (((bs x).size : Int) > 100) = true := decide_eq_true (by omega)
    clear hT
    generalize bs x = X at *
    go_enter Tryd.func5, Tryd.ntmps5
    go_wp2_with (go_at_call 7; (with_reducible refine (HA.out _ (Below.refl _ _)).mono ?_); rintro e w5 ⟨rfl, b5⟩)
    go_ret
    exact ⟨rfl, b5⟩
  have q : decide (((bs x).size : Int) > 100) = false := decide_eq_false (by omega)
  have HN := Lib.hid (r15Names_any w)
  have HM1 := Lib.hid (fun (W : World) (hb : Below w.heap.size w W) => pfMethod_any (hT.below hb) x)
  have HM2 := Lib.hid (fun (W : World) => r15Method_any x W)
  obtain ⟨Y, hY⟩ : ∃ Y, Y = bs (methodZ z) := ⟨_, rfl⟩
  have HNm := fun (W : World) (hb : Below w.heap.size w W) => pfName_any (hT.below hb) z
  rw [← hY] at HNm
  have HNm := Lib.hid HNm
  have HMk := Lib.hid (fun (W : World) => pfMark_any sv W)
  have HSt := Lib.hid (fun (W : World) => pfStrict_any sv W)
  have HP := Lib.hid (fun (W : World) (hb : Below w.heap.size w W) => pfPlain_out (hT.below hb))
  have HYL : Hid ((z = 1 → Y = bs meCurve) ∧ (z = 2 → Y = bs meEcdh) ∧ (z = 3 → Y = bs meGex) ∧ (z < 1 ∨ 3 < z → Y = ⟨#[]⟩)) := ⟨fun h => by rw [hY, h]; rfl, fun h => by rw [hY, h]; rfl, fun h => by rw [hY, h]; rfl, fun h => by rw [hY, want_out h]; rfl⟩
  have qY : (Y.toList == Y.toList) = true := by simp
  clear hT h100 hsz hY
  generalize methodP x = m at *
  generalize bs x = X at *
  obtain ⟨MK, hMK⟩ : ∃ MK, MK = markP sv := ⟨_, rfl⟩
  obtain ⟨SK, hSK⟩ : ∃ SK, SK = strictP sv := ⟨_, rfl⟩
  rw [← hMK] at HMk
  rw [← hSK] at HSt
  have qM : (MK.toList == MK.toList) = true := by simp
  have qS : (SK.toList == SK.toList) = true := by simp
  have HMK := Lib.hid hMK
  have HSK := Lib.hid hSK
  clear hMK hSK
  rcases methods_cases z with hz | hz | hz | hz | hz
  all_goals
    first
    | (subst hz; have hYe := HYL.out.1 rfl)
    | (subst hz; have hYe := HYL.out.2.1 rfl)
    | (subst hz; have hYe := HYL.out.2.2.1 rfl)
    | (have z1 : decide (z ≥ 1) = false := decide_eq_false (by omega); have hYe := HYL.out.2.2.2 (.inl hz))
    | (have z1 : decide (z ≥ 1) = true := decide_eq_true (by omega); have z2 : decide (z ≤ 3) = false := decide_eq_false (by omega); have hYe := HYL.out.2.2.2 (.inr hz))
    subst hYe
    clear HYL
  · cases sv with
    | true =>
      have e1 := HMK.out
      have e2 := HSK.out
      unfold markP at e1
      unfold strictP at e2
      rw [if_pos rfl] at e1 e2
      subst e1 e2
      clear HMK HSK
      go_enter Tryd.func5, Tryd.ntmps5
      go_wp2_with (first
        | (go_at_call 19; (with_reducible refine HN.out.mono ?_); rintro e w1 ⟨b, rfl, ht1, hbs, b1⟩; have B1 := Lib.hid b1; have HT1 := Lib.hid ht1; have n0 := names_cell ht1 0 _ rfl; clear b1 ht1)
        | (go_at_call 20; (with_reducible refine (HP.out _ B1.out).mono ?_); rintro e w3 ⟨a0, c0, a1, c1, a2, c2, a3, c3, a4, c4, a5, c5, a6, c6, a7, c7, rfl, ht3, b3⟩; have B3 := Lib.hid (B1.out.trans (b3.mono B1.out.size)); have HSm := Lib.hid (sames_of (HT1.out.below b3) ht3); have HCe := Lib.hid (boxed (w3 := w3) (a0 := a0) (a1 := a1) (a2 := a2) (a3 := a3) (a4 := a4) (a5 := a5) (a6 := a6) (a7 := a7) (c0 := c0) (c1 := c1) (c2 := c2) (c3 := c3) (c4 := c4) (c5 := c5) (c6 := c6) (c7 := c7)); have C4 : Hid (Below w3.heap.size w3 (w3.alloc (.cells #[.slice a0 3 c0, .slice a1 2 c1, .slice a2 2 c2, .slice a3 2 c3, .slice a4 2 c4, .slice a5 2 c5, .slice a6 1 c6, .slice a7 1 c7] 24))) := (Below.refl _ _).alloc (Nat.le_refl _) _; clear b3 ht3)
        | (go_at_call 7; (with_reducible refine (HA.out _ (B3.out.trans (C4.out.mono B3.out.size))).mono ?_); rintro e w5 ⟨rfl, b5⟩; have D5 := Lib.hid b5; clear b5)
        | (go_at_call 21; (with_reducible refine (HM1.out _ (B3.out.trans ((C4.out.trans (D5.out.mono C4.out.size)).mono B3.out.size))).mono ?_); rintro e w6 ⟨rfl, b6⟩; have D6 := Lib.hid (D5.out.trans (b6.mono D5.out.size)); clear b6)
        | (go_at_call 22; (with_reducible refine (HM2.out _).mono ?_); rintro e w7 ⟨rfl, b7⟩; have D7 := Lib.hid (D6.out.trans (b7.mono D6.out.size)); have d0 := HCe.out _ D7.out 0 _ rfl; clear b7)
        | (go_at_call 23; (with_reducible refine (HNm.out _ (B3.out.trans ((C4.out.trans (D7.out.mono C4.out.size)).mono B3.out.size))).mono ?_); rintro e w8 ⟨rfl, hw⟩; have hw := hw.symm; subst hw)
        | (go_at_call 24; (with_reducible refine (HMk.out _).mono ?_); rintro e w8 ⟨rfl, hw⟩; have hw := hw.symm; subst hw)
        | (go_at_call 25; (with_reducible refine (HSt.out _).mono ?_); rintro e w8 ⟨rfl, hw⟩; have hw := hw.symm; subst hw)
        | (go_at_call 14; (with_reducible refine (HSm.out.s0 _ (C4.out.trans (D7.out.mono C4.out.size))).mono ?_); rintro e w20 ⟨rfl, b20⟩; have E0 := Lib.hid (D7.out.trans (b20.mono D7.out.size)); have d1 := HCe.out _ E0.out 1 _ rfl; clear b20)
        | (go_at_call 14; (with_reducible refine (HSm.out.s1 _ (C4.out.trans (E0.out.mono C4.out.size))).mono ?_); rintro e w21 ⟨rfl, b21⟩; have E1 := Lib.hid (E0.out.trans (b21.mono E0.out.size)); have d2 := HCe.out _ E1.out 2 _ rfl; clear b21)
        | (go_at_call 14; (with_reducible refine (HSm.out.s2 _ (C4.out.trans (E1.out.mono C4.out.size))).mono ?_); rintro e w22 ⟨rfl, b22⟩; have E2 := Lib.hid (E1.out.trans (b22.mono E1.out.size)); have d3 := HCe.out _ E2.out 3 _ rfl; have d2 := HCe.out _ E2.out 2 _ rfl; clear b22)
        | (go_at_call 14; (with_reducible refine (HSm.out.s3 _ (C4.out.trans (E2.out.mono C4.out.size))).mono ?_); rintro e w23 ⟨rfl, b23⟩; have E3 := Lib.hid (E2.out.trans (b23.mono E2.out.size)); have d4 := HCe.out _ E3.out 4 _ rfl; clear b23)
        | (go_at_call 14; (with_reducible refine (HSm.out.s4 _ (C4.out.trans (E3.out.mono C4.out.size))).mono ?_); rintro e w24 ⟨rfl, b24⟩; have E4 := Lib.hid (E3.out.trans (b24.mono E3.out.size)); have d5 := HCe.out _ E4.out 5 _ rfl; have d4 := HCe.out _ E4.out 4 _ rfl; clear b24)
        | (go_at_call 14; (with_reducible refine (HSm.out.s5 _ (C4.out.trans (E4.out.mono C4.out.size))).mono ?_); rintro e w25 ⟨rfl, b25⟩; have E5 := Lib.hid (E4.out.trans (b25.mono E4.out.size)); have d6 := HCe.out _ E5.out 6 _ rfl; clear b25)
        | (go_at_call 14; (with_reducible refine (HSm.out.s6 _ (C4.out.trans (E5.out.mono C4.out.size))).mono ?_); rintro e w26 ⟨rfl, b26⟩; have E6 := Lib.hid (E5.out.trans (b26.mono E5.out.size)); have d7 := HCe.out _ E6.out 7 _ rfl; have d6 := HCe.out _ E6.out 6 _ rfl; clear b26)
        | (go_at_call 14; (with_reducible refine (HSm.out.s7 _ (C4.out.trans (E6.out.mono C4.out.size))).mono ?_); rintro e w27 ⟨rfl, b27⟩; have E7 := Lib.hid (E6.out.trans (b27.mono E6.out.size)); clear b27))
      go_ret
      exact ⟨rfl, B3.out.trans ((C4.out.trans (E7.out.mono C4.out.size)).mono B3.out.size)⟩
    | false =>
      have e1 := HMK.out
      have e2 := HSK.out
      unfold markP at e1
      unfold strictP at e2
      rw [if_neg (by decide)] at e1 e2
      subst e1 e2
      clear HMK HSK
      go_enter Tryd.func5, Tryd.ntmps5
      go_wp2_with (first
        | (go_at_call 19; (with_reducible refine HN.out.mono ?_); rintro e w1 ⟨b, rfl, ht1, hbs, b1⟩; have B1 := Lib.hid b1; have HT1 := Lib.hid ht1; have n0 := names_cell ht1 0 _ rfl; clear b1 ht1)
        | (go_at_call 20; (with_reducible refine (HP.out _ B1.out).mono ?_); rintro e w3 ⟨a0, c0, a1, c1, a2, c2, a3, c3, a4, c4, a5, c5, a6, c6, a7, c7, rfl, ht3, b3⟩; have B3 := Lib.hid (B1.out.trans (b3.mono B1.out.size)); have HSm := Lib.hid (sames_of (HT1.out.below b3) ht3); have HCe := Lib.hid (boxed (w3 := w3) (a0 := a0) (a1 := a1) (a2 := a2) (a3 := a3) (a4 := a4) (a5 := a5) (a6 := a6) (a7 := a7) (c0 := c0) (c1 := c1) (c2 := c2) (c3 := c3) (c4 := c4) (c5 := c5) (c6 := c6) (c7 := c7)); have C4 : Hid (Below w3.heap.size w3 (w3.alloc (.cells #[.slice a0 3 c0, .slice a1 2 c1, .slice a2 2 c2, .slice a3 2 c3, .slice a4 2 c4, .slice a5 2 c5, .slice a6 1 c6, .slice a7 1 c7] 24))) := (Below.refl _ _).alloc (Nat.le_refl _) _; clear b3 ht3)
        | (go_at_call 7; (with_reducible refine (HA.out _ (B3.out.trans (C4.out.mono B3.out.size))).mono ?_); rintro e w5 ⟨rfl, b5⟩; have D5 := Lib.hid b5; clear b5)
        | (go_at_call 21; (with_reducible refine (HM1.out _ (B3.out.trans ((C4.out.trans (D5.out.mono C4.out.size)).mono B3.out.size))).mono ?_); rintro e w6 ⟨rfl, b6⟩; have D6 := Lib.hid (D5.out.trans (b6.mono D5.out.size)); clear b6)
        | (go_at_call 22; (with_reducible refine (HM2.out _).mono ?_); rintro e w7 ⟨rfl, b7⟩; have D7 := Lib.hid (D6.out.trans (b7.mono D6.out.size)); have d0 := HCe.out _ D7.out 0 _ rfl; clear b7)
        | (go_at_call 23; (with_reducible refine (HNm.out _ (B3.out.trans ((C4.out.trans (D7.out.mono C4.out.size)).mono B3.out.size))).mono ?_); rintro e w8 ⟨rfl, hw⟩; have hw := hw.symm; subst hw)
        | (go_at_call 24; (with_reducible refine (HMk.out _).mono ?_); rintro e w8 ⟨rfl, hw⟩; have hw := hw.symm; subst hw)
        | (go_at_call 25; (with_reducible refine (HSt.out _).mono ?_); rintro e w8 ⟨rfl, hw⟩; have hw := hw.symm; subst hw)
        | (go_at_call 14; (with_reducible refine (HSm.out.s0 _ (C4.out.trans (D7.out.mono C4.out.size))).mono ?_); rintro e w20 ⟨rfl, b20⟩; have E0 := Lib.hid (D7.out.trans (b20.mono D7.out.size)); have d1 := HCe.out _ E0.out 1 _ rfl; clear b20)
        | (go_at_call 14; (with_reducible refine (HSm.out.s1 _ (C4.out.trans (E0.out.mono C4.out.size))).mono ?_); rintro e w21 ⟨rfl, b21⟩; have E1 := Lib.hid (E0.out.trans (b21.mono E0.out.size)); have d2 := HCe.out _ E1.out 2 _ rfl; clear b21)
        | (go_at_call 14; (with_reducible refine (HSm.out.s2 _ (C4.out.trans (E1.out.mono C4.out.size))).mono ?_); rintro e w22 ⟨rfl, b22⟩; have E2 := Lib.hid (E1.out.trans (b22.mono E1.out.size)); have d3 := HCe.out _ E2.out 3 _ rfl; have d2 := HCe.out _ E2.out 2 _ rfl; clear b22)
        | (go_at_call 14; (with_reducible refine (HSm.out.s3 _ (C4.out.trans (E2.out.mono C4.out.size))).mono ?_); rintro e w23 ⟨rfl, b23⟩; have E3 := Lib.hid (E2.out.trans (b23.mono E2.out.size)); have d4 := HCe.out _ E3.out 4 _ rfl; clear b23)
        | (go_at_call 14; (with_reducible refine (HSm.out.s4 _ (C4.out.trans (E3.out.mono C4.out.size))).mono ?_); rintro e w24 ⟨rfl, b24⟩; have E4 := Lib.hid (E3.out.trans (b24.mono E3.out.size)); have d5 := HCe.out _ E4.out 5 _ rfl; have d4 := HCe.out _ E4.out 4 _ rfl; clear b24)
        | (go_at_call 14; (with_reducible refine (HSm.out.s5 _ (C4.out.trans (E4.out.mono C4.out.size))).mono ?_); rintro e w25 ⟨rfl, b25⟩; have E5 := Lib.hid (E4.out.trans (b25.mono E4.out.size)); have d6 := HCe.out _ E5.out 6 _ rfl; clear b25)
        | (go_at_call 14; (with_reducible refine (HSm.out.s6 _ (C4.out.trans (E5.out.mono C4.out.size))).mono ?_); rintro e w26 ⟨rfl, b26⟩; have E6 := Lib.hid (E5.out.trans (b26.mono E5.out.size)); have d7 := HCe.out _ E6.out 7 _ rfl; have d6 := HCe.out _ E6.out 6 _ rfl; clear b26)
        | (go_at_call 14; (with_reducible refine (HSm.out.s7 _ (C4.out.trans (E6.out.mono C4.out.size))).mono ?_); rintro e w27 ⟨rfl, b27⟩; have E7 := Lib.hid (E6.out.trans (b27.mono E6.out.size)); clear b27))
      go_ret
      exact ⟨rfl, B3.out.trans ((C4.out.trans (E7.out.mono C4.out.size)).mono B3.out.size)⟩
  · cases sv with
    | true =>
      have e1 := HMK.out
      have e2 := HSK.out
      unfold markP at e1
      unfold strictP at e2
      rw [if_pos rfl] at e1 e2
      subst e1 e2
      clear HMK HSK
      go_enter Tryd.func5, Tryd.ntmps5
      go_wp2_with (first
        | (go_at_call 19; (with_reducible refine HN.out.mono ?_); rintro e w1 ⟨b, rfl, ht1, hbs, b1⟩; have B1 := Lib.hid b1; have HT1 := Lib.hid ht1; have n0 := names_cell ht1 1 _ rfl; clear b1 ht1)
        | (go_at_call 20; (with_reducible refine (HP.out _ B1.out).mono ?_); rintro e w3 ⟨a0, c0, a1, c1, a2, c2, a3, c3, a4, c4, a5, c5, a6, c6, a7, c7, rfl, ht3, b3⟩; have B3 := Lib.hid (B1.out.trans (b3.mono B1.out.size)); have HSm := Lib.hid (sames_of (HT1.out.below b3) ht3); have HCe := Lib.hid (boxed (w3 := w3) (a0 := a0) (a1 := a1) (a2 := a2) (a3 := a3) (a4 := a4) (a5 := a5) (a6 := a6) (a7 := a7) (c0 := c0) (c1 := c1) (c2 := c2) (c3 := c3) (c4 := c4) (c5 := c5) (c6 := c6) (c7 := c7)); have C4 : Hid (Below w3.heap.size w3 (w3.alloc (.cells #[.slice a0 3 c0, .slice a1 2 c1, .slice a2 2 c2, .slice a3 2 c3, .slice a4 2 c4, .slice a5 2 c5, .slice a6 1 c6, .slice a7 1 c7] 24))) := (Below.refl _ _).alloc (Nat.le_refl _) _; clear b3 ht3)
        | (go_at_call 7; (with_reducible refine (HA.out _ (B3.out.trans (C4.out.mono B3.out.size))).mono ?_); rintro e w5 ⟨rfl, b5⟩; have D5 := Lib.hid b5; clear b5)
        | (go_at_call 21; (with_reducible refine (HM1.out _ (B3.out.trans ((C4.out.trans (D5.out.mono C4.out.size)).mono B3.out.size))).mono ?_); rintro e w6 ⟨rfl, b6⟩; have D6 := Lib.hid (D5.out.trans (b6.mono D5.out.size)); clear b6)
        | (go_at_call 22; (with_reducible refine (HM2.out _).mono ?_); rintro e w7 ⟨rfl, b7⟩; have D7 := Lib.hid (D6.out.trans (b7.mono D6.out.size)); have d0 := HCe.out _ D7.out 0 _ rfl; clear b7)
        | (go_at_call 23; (with_reducible refine (HNm.out _ (B3.out.trans ((C4.out.trans (D7.out.mono C4.out.size)).mono B3.out.size))).mono ?_); rintro e w8 ⟨rfl, hw⟩; have hw := hw.symm; subst hw)
        | (go_at_call 24; (with_reducible refine (HMk.out _).mono ?_); rintro e w8 ⟨rfl, hw⟩; have hw := hw.symm; subst hw)
        | (go_at_call 25; (with_reducible refine (HSt.out _).mono ?_); rintro e w8 ⟨rfl, hw⟩; have hw := hw.symm; subst hw)
        | (go_at_call 14; (with_reducible refine (HSm.out.s0 _ (C4.out.trans (D7.out.mono C4.out.size))).mono ?_); rintro e w20 ⟨rfl, b20⟩; have E0 := Lib.hid (D7.out.trans (b20.mono D7.out.size)); have d1 := HCe.out _ E0.out 1 _ rfl; clear b20)
        | (go_at_call 14; (with_reducible refine (HSm.out.s1 _ (C4.out.trans (E0.out.mono C4.out.size))).mono ?_); rintro e w21 ⟨rfl, b21⟩; have E1 := Lib.hid (E0.out.trans (b21.mono E0.out.size)); have d2 := HCe.out _ E1.out 2 _ rfl; clear b21)
        | (go_at_call 14; (with_reducible refine (HSm.out.s2 _ (C4.out.trans (E1.out.mono C4.out.size))).mono ?_); rintro e w22 ⟨rfl, b22⟩; have E2 := Lib.hid (E1.out.trans (b22.mono E1.out.size)); have d3 := HCe.out _ E2.out 3 _ rfl; have d2 := HCe.out _ E2.out 2 _ rfl; clear b22)
        | (go_at_call 14; (with_reducible refine (HSm.out.s3 _ (C4.out.trans (E2.out.mono C4.out.size))).mono ?_); rintro e w23 ⟨rfl, b23⟩; have E3 := Lib.hid (E2.out.trans (b23.mono E2.out.size)); have d4 := HCe.out _ E3.out 4 _ rfl; clear b23)
        | (go_at_call 14; (with_reducible refine (HSm.out.s4 _ (C4.out.trans (E3.out.mono C4.out.size))).mono ?_); rintro e w24 ⟨rfl, b24⟩; have E4 := Lib.hid (E3.out.trans (b24.mono E3.out.size)); have d5 := HCe.out _ E4.out 5 _ rfl; have d4 := HCe.out _ E4.out 4 _ rfl; clear b24)
        | (go_at_call 14; (with_reducible refine (HSm.out.s5 _ (C4.out.trans (E4.out.mono C4.out.size))).mono ?_); rintro e w25 ⟨rfl, b25⟩; have E5 := Lib.hid (E4.out.trans (b25.mono E4.out.size)); have d6 := HCe.out _ E5.out 6 _ rfl; clear b25)
        | (go_at_call 14; (with_reducible refine (HSm.out.s6 _ (C4.out.trans (E5.out.mono C4.out.size))).mono ?_); rintro e w26 ⟨rfl, b26⟩; have E6 := Lib.hid (E5.out.trans (b26.mono E5.out.size)); have d7 := HCe.out _ E6.out 7 _ rfl; have d6 := HCe.out _ E6.out 6 _ rfl; clear b26)
        | (go_at_call 14; (with_reducible refine (HSm.out.s7 _ (C4.out.trans (E6.out.mono C4.out.size))).mono ?_); rintro e w27 ⟨rfl, b27⟩; have E7 := Lib.hid (E6.out.trans (b27.mono E6.out.size)); clear b27))
      go_ret
      exact ⟨rfl, B3.out.trans ((C4.out.trans (E7.out.mono C4.out.size)).mono B3.out.size)⟩
    | false =>
      have e1 := HMK.out
      have e2 := HSK.out
      unfold markP at e1
      unfold strictP at e2
      rw [if_neg (by decide)] at e1 e2
      subst e1 e2
      clear HMK HSK
      go_enter Tryd.func5, Tryd.ntmps5
      go_wp2_with (first
        | (go_at_call 19; (with_reducible refine HN.out.mono ?_); rintro e w1 ⟨b, rfl, ht1, hbs, b1⟩; have B1 := Lib.hid b1; have HT1 := Lib.hid ht1; have n0 := names_cell ht1 1 _ rfl; clear b1 ht1)
        | (go_at_call 20; (with_reducible refine (HP.out _ B1.out).mono ?_); rintro e w3 ⟨a0, c0, a1, c1, a2, c2, a3, c3, a4, c4, a5, c5, a6, c6, a7, c7, rfl, ht3, b3⟩; have B3 := Lib.hid (B1.out.trans (b3.mono B1.out.size)); have HSm := Lib.hid (sames_of (HT1.out.below b3) ht3); have HCe := Lib.hid (boxed (w3 := w3) (a0 := a0) (a1 := a1) (a2 := a2) (a3 := a3) (a4 := a4) (a5 := a5) (a6 := a6) (a7 := a7) (c0 := c0) (c1 := c1) (c2 := c2) (c3 := c3) (c4 := c4) (c5 := c5) (c6 := c6) (c7 := c7)); have C4 : Hid (Below w3.heap.size w3 (w3.alloc (.cells #[.slice a0 3 c0, .slice a1 2 c1, .slice a2 2 c2, .slice a3 2 c3, .slice a4 2 c4, .slice a5 2 c5, .slice a6 1 c6, .slice a7 1 c7] 24))) := (Below.refl _ _).alloc (Nat.le_refl _) _; clear b3 ht3)
        | (go_at_call 7; (with_reducible refine (HA.out _ (B3.out.trans (C4.out.mono B3.out.size))).mono ?_); rintro e w5 ⟨rfl, b5⟩; have D5 := Lib.hid b5; clear b5)
        | (go_at_call 21; (with_reducible refine (HM1.out _ (B3.out.trans ((C4.out.trans (D5.out.mono C4.out.size)).mono B3.out.size))).mono ?_); rintro e w6 ⟨rfl, b6⟩; have D6 := Lib.hid (D5.out.trans (b6.mono D5.out.size)); clear b6)
        | (go_at_call 22; (with_reducible refine (HM2.out _).mono ?_); rintro e w7 ⟨rfl, b7⟩; have D7 := Lib.hid (D6.out.trans (b7.mono D6.out.size)); have d0 := HCe.out _ D7.out 0 _ rfl; clear b7)
        | (go_at_call 23; (with_reducible refine (HNm.out _ (B3.out.trans ((C4.out.trans (D7.out.mono C4.out.size)).mono B3.out.size))).mono ?_); rintro e w8 ⟨rfl, hw⟩; have hw := hw.symm; subst hw)
        | (go_at_call 24; (with_reducible refine (HMk.out _).mono ?_); rintro e w8 ⟨rfl, hw⟩; have hw := hw.symm; subst hw)
        | (go_at_call 25; (with_reducible refine (HSt.out _).mono ?_); rintro e w8 ⟨rfl, hw⟩; have hw := hw.symm; subst hw)
        | (go_at_call 14; (with_reducible refine (HSm.out.s0 _ (C4.out.trans (D7.out.mono C4.out.size))).mono ?_); rintro e w20 ⟨rfl, b20⟩; have E0 := Lib.hid (D7.out.trans (b20.mono D7.out.size)); have d1 := HCe.out _ E0.out 1 _ rfl; clear b20)
        | (go_at_call 14; (with_reducible refine (HSm.out.s1 _ (C4.out.trans (E0.out.mono C4.out.size))).mono ?_); rintro e w21 ⟨rfl, b21⟩; have E1 := Lib.hid (E0.out.trans (b21.mono E0.out.size)); have d2 := HCe.out _ E1.out 2 _ rfl; clear b21)
        | (go_at_call 14; (with_reducible refine (HSm.out.s2 _ (C4.out.trans (E1.out.mono C4.out.size))).mono ?_); rintro e w22 ⟨rfl, b22⟩; have E2 := Lib.hid (E1.out.trans (b22.mono E1.out.size)); have d3 := HCe.out _ E2.out 3 _ rfl; have d2 := HCe.out _ E2.out 2 _ rfl; clear b22)
        | (go_at_call 14; (with_reducible refine (HSm.out.s3 _ (C4.out.trans (E2.out.mono C4.out.size))).mono ?_); rintro e w23 ⟨rfl, b23⟩; have E3 := Lib.hid (E2.out.trans (b23.mono E2.out.size)); have d4 := HCe.out _ E3.out 4 _ rfl; clear b23)
        | (go_at_call 14; (with_reducible refine (HSm.out.s4 _ (C4.out.trans (E3.out.mono C4.out.size))).mono ?_); rintro e w24 ⟨rfl, b24⟩; have E4 := Lib.hid (E3.out.trans (b24.mono E3.out.size)); have d5 := HCe.out _ E4.out 5 _ rfl; have d4 := HCe.out _ E4.out 4 _ rfl; clear b24)
        | (go_at_call 14; (with_reducible refine (HSm.out.s5 _ (C4.out.trans (E4.out.mono C4.out.size))).mono ?_); rintro e w25 ⟨rfl, b25⟩; have E5 := Lib.hid (E4.out.trans (b25.mono E4.out.size)); have d6 := HCe.out _ E5.out 6 _ rfl; clear b25)
        | (go_at_call 14; (with_reducible refine (HSm.out.s6 _ (C4.out.trans (E5.out.mono C4.out.size))).mono ?_); rintro e w26 ⟨rfl, b26⟩; have E6 := Lib.hid (E5.out.trans (b26.mono E5.out.size)); have d7 := HCe.out _ E6.out 7 _ rfl; have d6 := HCe.out _ E6.out 6 _ rfl; clear b26)
        | (go_at_call 14; (with_reducible refine (HSm.out.s7 _ (C4.out.trans (E6.out.mono C4.out.size))).mono ?_); rintro e w27 ⟨rfl, b27⟩; have E7 := Lib.hid (E6.out.trans (b27.mono E6.out.size)); clear b27))
      go_ret
      exact ⟨rfl, B3.out.trans ((C4.out.trans (E7.out.mono C4.out.size)).mono B3.out.size)⟩
  · cases sv with
    | true =>
      have e1 := HMK.out
      have e2 := HSK.out
      unfold markP at e1
      unfold strictP at e2
      rw [if_pos rfl] at e1 e2
      subst e1 e2
      clear HMK HSK
      go_enter Tryd.func5, Tryd.ntmps5
      go_wp2_with (first
        | (go_at_call 19; (with_reducible refine HN.out.mono ?_); rintro e w1 ⟨b, rfl, ht1, hbs, b1⟩; have B1 := Lib.hid b1; have HT1 := Lib.hid ht1; have n0 := names_cell ht1 2 _ rfl; clear b1 ht1)
        | (go_at_call 20; (with_reducible refine (HP.out _ B1.out).mono ?_); rintro e w3 ⟨a0, c0, a1, c1, a2, c2, a3, c3, a4, c4, a5, c5, a6, c6, a7, c7, rfl, ht3, b3⟩; have B3 := Lib.hid (B1.out.trans (b3.mono B1.out.size)); have HSm := Lib.hid (sames_of (HT1.out.below b3) ht3); have HCe := Lib.hid (boxed (w3 := w3) (a0 := a0) (a1 := a1) (a2 := a2) (a3 := a3) (a4 := a4) (a5 := a5) (a6 := a6) (a7 := a7) (c0 := c0) (c1 := c1) (c2 := c2) (c3 := c3) (c4 := c4) (c5 := c5) (c6 := c6) (c7 := c7)); have C4 : Hid (Below w3.heap.size w3 (w3.alloc (.cells #[.slice a0 3 c0, .slice a1 2 c1, .slice a2 2 c2, .slice a3 2 c3, .slice a4 2 c4, .slice a5 2 c5, .slice a6 1 c6, .slice a7 1 c7] 24))) := (Below.refl _ _).alloc (Nat.le_refl _) _; clear b3 ht3)
        | (go_at_call 7; (with_reducible refine (HA.out _ (B3.out.trans (C4.out.mono B3.out.size))).mono ?_); rintro e w5 ⟨rfl, b5⟩; have D5 := Lib.hid b5; clear b5)
        | (go_at_call 21; (with_reducible refine (HM1.out _ (B3.out.trans ((C4.out.trans (D5.out.mono C4.out.size)).mono B3.out.size))).mono ?_); rintro e w6 ⟨rfl, b6⟩; have D6 := Lib.hid (D5.out.trans (b6.mono D5.out.size)); clear b6)
        | (go_at_call 22; (with_reducible refine (HM2.out _).mono ?_); rintro e w7 ⟨rfl, b7⟩; have D7 := Lib.hid (D6.out.trans (b7.mono D6.out.size)); have d0 := HCe.out _ D7.out 0 _ rfl; clear b7)
        | (go_at_call 23; (with_reducible refine (HNm.out _ (B3.out.trans ((C4.out.trans (D7.out.mono C4.out.size)).mono B3.out.size))).mono ?_); rintro e w8 ⟨rfl, hw⟩; have hw := hw.symm; subst hw)
        | (go_at_call 24; (with_reducible refine (HMk.out _).mono ?_); rintro e w8 ⟨rfl, hw⟩; have hw := hw.symm; subst hw)
        | (go_at_call 25; (with_reducible refine (HSt.out _).mono ?_); rintro e w8 ⟨rfl, hw⟩; have hw := hw.symm; subst hw)
        | (go_at_call 14; (with_reducible refine (HSm.out.s0 _ (C4.out.trans (D7.out.mono C4.out.size))).mono ?_); rintro e w20 ⟨rfl, b20⟩; have E0 := Lib.hid (D7.out.trans (b20.mono D7.out.size)); have d1 := HCe.out _ E0.out 1 _ rfl; clear b20)
        | (go_at_call 14; (with_reducible refine (HSm.out.s1 _ (C4.out.trans (E0.out.mono C4.out.size))).mono ?_); rintro e w21 ⟨rfl, b21⟩; have E1 := Lib.hid (E0.out.trans (b21.mono E0.out.size)); have d2 := HCe.out _ E1.out 2 _ rfl; clear b21)
        | (go_at_call 14; (with_reducible refine (HSm.out.s2 _ (C4.out.trans (E1.out.mono C4.out.size))).mono ?_); rintro e w22 ⟨rfl, b22⟩; have E2 := Lib.hid (E1.out.trans (b22.mono E1.out.size)); have d3 := HCe.out _ E2.out 3 _ rfl; have d2 := HCe.out _ E2.out 2 _ rfl; clear b22)
        | (go_at_call 14; (with_reducible refine (HSm.out.s3 _ (C4.out.trans (E2.out.mono C4.out.size))).mono ?_); rintro e w23 ⟨rfl, b23⟩; have E3 := Lib.hid (E2.out.trans (b23.mono E2.out.size)); have d4 := HCe.out _ E3.out 4 _ rfl; clear b23)
        | (go_at_call 14; (with_reducible refine (HSm.out.s4 _ (C4.out.trans (E3.out.mono C4.out.size))).mono ?_); rintro e w24 ⟨rfl, b24⟩; have E4 := Lib.hid (E3.out.trans (b24.mono E3.out.size)); have d5 := HCe.out _ E4.out 5 _ rfl; have d4 := HCe.out _ E4.out 4 _ rfl; clear b24)
        | (go_at_call 14; (with_reducible refine (HSm.out.s5 _ (C4.out.trans (E4.out.mono C4.out.size))).mono ?_); rintro e w25 ⟨rfl, b25⟩; have E5 := Lib.hid (E4.out.trans (b25.mono E4.out.size)); have d6 := HCe.out _ E5.out 6 _ rfl; clear b25)
        | (go_at_call 14; (with_reducible refine (HSm.out.s6 _ (C4.out.trans (E5.out.mono C4.out.size))).mono ?_); rintro e w26 ⟨rfl, b26⟩; have E6 := Lib.hid (E5.out.trans (b26.mono E5.out.size)); have d7 := HCe.out _ E6.out 7 _ rfl; have d6 := HCe.out _ E6.out 6 _ rfl; clear b26)
        | (go_at_call 14; (with_reducible refine (HSm.out.s7 _ (C4.out.trans (E6.out.mono C4.out.size))).mono ?_); rintro e w27 ⟨rfl, b27⟩; have E7 := Lib.hid (E6.out.trans (b27.mono E6.out.size)); clear b27))
      go_ret
      exact ⟨rfl, B3.out.trans ((C4.out.trans (E7.out.mono C4.out.size)).mono B3.out.size)⟩
    | false =>
      have e1 := HMK.out
      have e2 := HSK.out
      unfold markP at e1
      unfold strictP at e2
      rw [if_neg (by decide)] at e1 e2
      subst e1 e2
      clear HMK HSK
      go_enter Tryd.func5, Tryd.ntmps5
      go_wp2_with (first
        | (go_at_call 19; (with_reducible refine HN.out.mono ?_); rintro e w1 ⟨b, rfl, ht1, hbs, b1⟩; have B1 := Lib.hid b1; have HT1 := Lib.hid ht1; have n0 := names_cell ht1 2 _ rfl; clear b1 ht1)
        | (go_at_call 20; (with_reducible refine (HP.out _ B1.out).mono ?_); rintro e w3 ⟨a0, c0, a1, c1, a2, c2, a3, c3, a4, c4, a5, c5, a6, c6, a7, c7, rfl, ht3, b3⟩; have B3 := Lib.hid (B1.out.trans (b3.mono B1.out.size)); have HSm := Lib.hid (sames_of (HT1.out.below b3) ht3); have HCe := Lib.hid (boxed (w3 := w3) (a0 := a0) (a1 := a1) (a2 := a2) (a3 := a3) (a4 := a4) (a5 := a5) (a6 := a6) (a7 := a7) (c0 := c0) (c1 := c1) (c2 := c2) (c3 := c3) (c4 := c4) (c5 := c5) (c6 := c6) (c7 := c7)); have C4 : Hid (Below w3.heap.size w3 (w3.alloc (.cells #[.slice a0 3 c0, .slice a1 2 c1, .slice a2 2 c2, .slice a3 2 c3, .slice a4 2 c4, .slice a5 2 c5, .slice a6 1 c6, .slice a7 1 c7] 24))) := (Below.refl _ _).alloc (Nat.le_refl _) _; clear b3 ht3)
        | (go_at_call 7; (with_reducible refine (HA.out _ (B3.out.trans (C4.out.mono B3.out.size))).mono ?_); rintro e w5 ⟨rfl, b5⟩; have D5 := Lib.hid b5; clear b5)
        | (go_at_call 21; (with_reducible refine (HM1.out _ (B3.out.trans ((C4.out.trans (D5.out.mono C4.out.size)).mono B3.out.size))).mono ?_); rintro e w6 ⟨rfl, b6⟩; have D6 := Lib.hid (D5.out.trans (b6.mono D5.out.size)); clear b6)
        | (go_at_call 22; (with_reducible refine (HM2.out _).mono ?_); rintro e w7 ⟨rfl, b7⟩; have D7 := Lib.hid (D6.out.trans (b7.mono D6.out.size)); have d0 := HCe.out _ D7.out 0 _ rfl; clear b7)
        | (go_at_call 23; (with_reducible refine (HNm.out _ (B3.out.trans ((C4.out.trans (D7.out.mono C4.out.size)).mono B3.out.size))).mono ?_); rintro e w8 ⟨rfl, hw⟩; have hw := hw.symm; subst hw)
        | (go_at_call 24; (with_reducible refine (HMk.out _).mono ?_); rintro e w8 ⟨rfl, hw⟩; have hw := hw.symm; subst hw)
        | (go_at_call 25; (with_reducible refine (HSt.out _).mono ?_); rintro e w8 ⟨rfl, hw⟩; have hw := hw.symm; subst hw)
        | (go_at_call 14; (with_reducible refine (HSm.out.s0 _ (C4.out.trans (D7.out.mono C4.out.size))).mono ?_); rintro e w20 ⟨rfl, b20⟩; have E0 := Lib.hid (D7.out.trans (b20.mono D7.out.size)); have d1 := HCe.out _ E0.out 1 _ rfl; clear b20)
        | (go_at_call 14; (with_reducible refine (HSm.out.s1 _ (C4.out.trans (E0.out.mono C4.out.size))).mono ?_); rintro e w21 ⟨rfl, b21⟩; have E1 := Lib.hid (E0.out.trans (b21.mono E0.out.size)); have d2 := HCe.out _ E1.out 2 _ rfl; clear b21)
        | (go_at_call 14; (with_reducible refine (HSm.out.s2 _ (C4.out.trans (E1.out.mono C4.out.size))).mono ?_); rintro e w22 ⟨rfl, b22⟩; have E2 := Lib.hid (E1.out.trans (b22.mono E1.out.size)); have d3 := HCe.out _ E2.out 3 _ rfl; have d2 := HCe.out _ E2.out 2 _ rfl; clear b22)
        | (go_at_call 14; (with_reducible refine (HSm.out.s3 _ (C4.out.trans (E2.out.mono C4.out.size))).mono ?_); rintro e w23 ⟨rfl, b23⟩; have E3 := Lib.hid (E2.out.trans (b23.mono E2.out.size)); have d4 := HCe.out _ E3.out 4 _ rfl; clear b23)
        | (go_at_call 14; (with_reducible refine (HSm.out.s4 _ (C4.out.trans (E3.out.mono C4.out.size))).mono ?_); rintro e w24 ⟨rfl, b24⟩; have E4 := Lib.hid (E3.out.trans (b24.mono E3.out.size)); have d5 := HCe.out _ E4.out 5 _ rfl; have d4 := HCe.out _ E4.out 4 _ rfl; clear b24)
        | (go_at_call 14; (with_reducible refine (HSm.out.s5 _ (C4.out.trans (E4.out.mono C4.out.size))).mono ?_); rintro e w25 ⟨rfl, b25⟩; have E5 := Lib.hid (E4.out.trans (b25.mono E4.out.size)); have d6 := HCe.out _ E5.out 6 _ rfl; clear b25)
        | (go_at_call 14; (with_reducible refine (HSm.out.s6 _ (C4.out.trans (E5.out.mono C4.out.size))).mono ?_); rintro e w26 ⟨rfl, b26⟩; have E6 := Lib.hid (E5.out.trans (b26.mono E5.out.size)); have d7 := HCe.out _ E6.out 7 _ rfl; have d6 := HCe.out _ E6.out 6 _ rfl; clear b26)
        | (go_at_call 14; (with_reducible refine (HSm.out.s7 _ (C4.out.trans (E6.out.mono C4.out.size))).mono ?_); rintro e w27 ⟨rfl, b27⟩; have E7 := Lib.hid (E6.out.trans (b27.mono E6.out.size)); clear b27))
      go_ret
      exact ⟨rfl, B3.out.trans ((C4.out.trans (E7.out.mono C4.out.size)).mono B3.out.size)⟩
  · cases sv with
    | true =>
      have e1 := HMK.out
      have e2 := HSK.out
      unfold markP at e1
      unfold strictP at e2
      rw [if_pos rfl] at e1 e2
      subst e1 e2
      clear HMK HSK
      go_enter Tryd.func5, Tryd.ntmps5
      go_wp2_with (first
        | (go_at_call 19; (with_reducible refine HN.out.mono ?_); rintro e w1 ⟨b, rfl, ht1, hbs, b1⟩; have B1 := Lib.hid b1; have HT1 := Lib.hid ht1; clear b1 ht1)
        | (go_at_call 20; (with_reducible refine (HP.out _ B1.out).mono ?_); rintro e w3 ⟨a0, c0, a1, c1, a2, c2, a3, c3, a4, c4, a5, c5, a6, c6, a7, c7, rfl, ht3, b3⟩; have B3 := Lib.hid (B1.out.trans (b3.mono B1.out.size)); have HSm := Lib.hid (sames_of (HT1.out.below b3) ht3); have HCe := Lib.hid (boxed (w3 := w3) (a0 := a0) (a1 := a1) (a2 := a2) (a3 := a3) (a4 := a4) (a5 := a5) (a6 := a6) (a7 := a7) (c0 := c0) (c1 := c1) (c2 := c2) (c3 := c3) (c4 := c4) (c5 := c5) (c6 := c6) (c7 := c7)); have C4 : Hid (Below w3.heap.size w3 (w3.alloc (.cells #[.slice a0 3 c0, .slice a1 2 c1, .slice a2 2 c2, .slice a3 2 c3, .slice a4 2 c4, .slice a5 2 c5, .slice a6 1 c6, .slice a7 1 c7] 24))) := (Below.refl _ _).alloc (Nat.le_refl _) _; clear b3 ht3)
        | (go_at_call 7; (with_reducible refine (HA.out _ (B3.out.trans (C4.out.mono B3.out.size))).mono ?_); rintro e w5 ⟨rfl, b5⟩; have D5 := Lib.hid b5; clear b5)
        | (go_at_call 21; (with_reducible refine (HM1.out _ (B3.out.trans ((C4.out.trans (D5.out.mono C4.out.size)).mono B3.out.size))).mono ?_); rintro e w6 ⟨rfl, b6⟩; have D6 := Lib.hid (D5.out.trans (b6.mono D5.out.size)); clear b6)
        | (go_at_call 22; (with_reducible refine (HM2.out _).mono ?_); rintro e w7 ⟨rfl, b7⟩; have D7 := Lib.hid (D6.out.trans (b7.mono D6.out.size)); have d0 := HCe.out _ D7.out 0 _ rfl; clear b7)
        | (go_at_call 23; (with_reducible refine (HNm.out _ (B3.out.trans ((C4.out.trans (D7.out.mono C4.out.size)).mono B3.out.size))).mono ?_); rintro e w8 ⟨rfl, hw⟩; have hw := hw.symm; subst hw)
        | (go_at_call 24; (with_reducible refine (HMk.out _).mono ?_); rintro e w8 ⟨rfl, hw⟩; have hw := hw.symm; subst hw)
        | (go_at_call 25; (with_reducible refine (HSt.out _).mono ?_); rintro e w8 ⟨rfl, hw⟩; have hw := hw.symm; subst hw)
        | (go_at_call 14; (with_reducible refine (HSm.out.s0 _ (C4.out.trans (D7.out.mono C4.out.size))).mono ?_); rintro e w20 ⟨rfl, b20⟩; have E0 := Lib.hid (D7.out.trans (b20.mono D7.out.size)); have d1 := HCe.out _ E0.out 1 _ rfl; clear b20)
        | (go_at_call 14; (with_reducible refine (HSm.out.s1 _ (C4.out.trans (E0.out.mono C4.out.size))).mono ?_); rintro e w21 ⟨rfl, b21⟩; have E1 := Lib.hid (E0.out.trans (b21.mono E0.out.size)); have d2 := HCe.out _ E1.out 2 _ rfl; clear b21)
        | (go_at_call 14; (with_reducible refine (HSm.out.s2 _ (C4.out.trans (E1.out.mono C4.out.size))).mono ?_); rintro e w22 ⟨rfl, b22⟩; have E2 := Lib.hid (E1.out.trans (b22.mono E1.out.size)); have d3 := HCe.out _ E2.out 3 _ rfl; have d2 := HCe.out _ E2.out 2 _ rfl; clear b22)
        | (go_at_call 14; (with_reducible refine (HSm.out.s3 _ (C4.out.trans (E2.out.mono C4.out.size))).mono ?_); rintro e w23 ⟨rfl, b23⟩; have E3 := Lib.hid (E2.out.trans (b23.mono E2.out.size)); have d4 := HCe.out _ E3.out 4 _ rfl; clear b23)
        | (go_at_call 14; (with_reducible refine (HSm.out.s4 _ (C4.out.trans (E3.out.mono C4.out.size))).mono ?_); rintro e w24 ⟨rfl, b24⟩; have E4 := Lib.hid (E3.out.trans (b24.mono E3.out.size)); have d5 := HCe.out _ E4.out 5 _ rfl; have d4 := HCe.out _ E4.out 4 _ rfl; clear b24)
        | (go_at_call 14; (with_reducible refine (HSm.out.s5 _ (C4.out.trans (E4.out.mono C4.out.size))).mono ?_); rintro e w25 ⟨rfl, b25⟩; have E5 := Lib.hid (E4.out.trans (b25.mono E4.out.size)); have d6 := HCe.out _ E5.out 6 _ rfl; clear b25)
        | (go_at_call 14; (with_reducible refine (HSm.out.s6 _ (C4.out.trans (E5.out.mono C4.out.size))).mono ?_); rintro e w26 ⟨rfl, b26⟩; have E6 := Lib.hid (E5.out.trans (b26.mono E5.out.size)); have d7 := HCe.out _ E6.out 7 _ rfl; have d6 := HCe.out _ E6.out 6 _ rfl; clear b26)
        | (go_at_call 14; (with_reducible refine (HSm.out.s7 _ (C4.out.trans (E6.out.mono C4.out.size))).mono ?_); rintro e w27 ⟨rfl, b27⟩; have E7 := Lib.hid (E6.out.trans (b27.mono E6.out.size)); clear b27))
      go_ret
      exact ⟨rfl, B3.out.trans ((C4.out.trans (E7.out.mono C4.out.size)).mono B3.out.size)⟩
    | false =>
      have e1 := HMK.out
      have e2 := HSK.out
      unfold markP at e1
      unfold strictP at e2
      rw [if_neg (by decide)] at e1 e2
      subst e1 e2
      clear HMK HSK
      go_enter Tryd.func5, Tryd.ntmps5
      go_wp2_with (first
        | (go_at_call 19; (with_reducible refine HN.out.mono ?_); rintro e w1 ⟨b, rfl, ht1, hbs, b1⟩; have B1 := Lib.hid b1; have HT1 := Lib.hid ht1; clear b1 ht1)
        | (go_at_call 20; (with_reducible refine (HP.out _ B1.out).mono ?_); rintro e w3 ⟨a0, c0, a1, c1, a2, c2, a3, c3, a4, c4, a5, c5, a6, c6, a7, c7, rfl, ht3, b3⟩; have B3 := Lib.hid (B1.out.trans (b3.mono B1.out.size)); have HSm := Lib.hid (sames_of (HT1.out.below b3) ht3); have HCe := Lib.hid (boxed (w3 := w3) (a0 := a0) (a1 := a1) (a2 := a2) (a3 := a3) (a4 := a4) (a5 := a5) (a6 := a6) (a7 := a7) (c0 := c0) (c1 := c1) (c2 := c2) (c3 := c3) (c4 := c4) (c5 := c5) (c6 := c6) (c7 := c7)); have C4 : Hid (Below w3.heap.size w3 (w3.alloc (.cells #[.slice a0 3 c0, .slice a1 2 c1, .slice a2 2 c2, .slice a3 2 c3, .slice a4 2 c4, .slice a5 2 c5, .slice a6 1 c6, .slice a7 1 c7] 24))) := (Below.refl _ _).alloc (Nat.le_refl _) _; clear b3 ht3)
        | (go_at_call 7; (with_reducible refine (HA.out _ (B3.out.trans (C4.out.mono B3.out.size))).mono ?_); rintro e w5 ⟨rfl, b5⟩; have D5 := Lib.hid b5; clear b5)
        | (go_at_call 21; (with_reducible refine (HM1.out _ (B3.out.trans ((C4.out.trans (D5.out.mono C4.out.size)).mono B3.out.size))).mono ?_); rintro e w6 ⟨rfl, b6⟩; have D6 := Lib.hid (D5.out.trans (b6.mono D5.out.size)); clear b6)
        | (go_at_call 22; (with_reducible refine (HM2.out _).mono ?_); rintro e w7 ⟨rfl, b7⟩; have D7 := Lib.hid (D6.out.trans (b7.mono D6.out.size)); have d0 := HCe.out _ D7.out 0 _ rfl; clear b7)
        | (go_at_call 23; (with_reducible refine (HNm.out _ (B3.out.trans ((C4.out.trans (D7.out.mono C4.out.size)).mono B3.out.size))).mono ?_); rintro e w8 ⟨rfl, hw⟩; have hw := hw.symm; subst hw)
        | (go_at_call 24; (with_reducible refine (HMk.out _).mono ?_); rintro e w8 ⟨rfl, hw⟩; have hw := hw.symm; subst hw)
        | (go_at_call 25; (with_reducible refine (HSt.out _).mono ?_); rintro e w8 ⟨rfl, hw⟩; have hw := hw.symm; subst hw)
        | (go_at_call 14; (with_reducible refine (HSm.out.s0 _ (C4.out.trans (D7.out.mono C4.out.size))).mono ?_); rintro e w20 ⟨rfl, b20⟩; have E0 := Lib.hid (D7.out.trans (b20.mono D7.out.size)); have d1 := HCe.out _ E0.out 1 _ rfl; clear b20)
        | (go_at_call 14; (with_reducible refine (HSm.out.s1 _ (C4.out.trans (E0.out.mono C4.out.size))).mono ?_); rintro e w21 ⟨rfl, b21⟩; have E1 := Lib.hid (E0.out.trans (b21.mono E0.out.size)); have d2 := HCe.out _ E1.out 2 _ rfl; clear b21)
        | (go_at_call 14; (with_reducible refine (HSm.out.s2 _ (C4.out.trans (E1.out.mono C4.out.size))).mono ?_); rintro e w22 ⟨rfl, b22⟩; have E2 := Lib.hid (E1.out.trans (b22.mono E1.out.size)); have d3 := HCe.out _ E2.out 3 _ rfl; have d2 := HCe.out _ E2.out 2 _ rfl; clear b22)
        | (go_at_call 14; (with_reducible refine (HSm.out.s3 _ (C4.out.trans (E2.out.mono C4.out.size))).mono ?_); rintro e w23 ⟨rfl, b23⟩; have E3 := Lib.hid (E2.out.trans (b23.mono E2.out.size)); have d4 := HCe.out _ E3.out 4 _ rfl; clear b23)
        | (go_at_call 14; (with_reducible refine (HSm.out.s4 _ (C4.out.trans (E3.out.mono C4.out.size))).mono ?_); rintro e w24 ⟨rfl, b24⟩; have E4 := Lib.hid (E3.out.trans (b24.mono E3.out.size)); have d5 := HCe.out _ E4.out 5 _ rfl; have d4 := HCe.out _ E4.out 4 _ rfl; clear b24)
        | (go_at_call 14; (with_reducible refine (HSm.out.s5 _ (C4.out.trans (E4.out.mono C4.out.size))).mono ?_); rintro e w25 ⟨rfl, b25⟩; have E5 := Lib.hid (E4.out.trans (b25.mono E4.out.size)); have d6 := HCe.out _ E5.out 6 _ rfl; clear b25)
        | (go_at_call 14; (with_reducible refine (HSm.out.s6 _ (C4.out.trans (E5.out.mono C4.out.size))).mono ?_); rintro e w26 ⟨rfl, b26⟩; have E6 := Lib.hid (E5.out.trans (b26.mono E5.out.size)); have d7 := HCe.out _ E6.out 7 _ rfl; have d6 := HCe.out _ E6.out 6 _ rfl; clear b26)
        | (go_at_call 14; (with_reducible refine (HSm.out.s7 _ (C4.out.trans (E6.out.mono C4.out.size))).mono ?_); rintro e w27 ⟨rfl, b27⟩; have E7 := Lib.hid (E6.out.trans (b27.mono E6.out.size)); clear b27))
      go_ret
      exact ⟨rfl, B3.out.trans ((C4.out.trans (E7.out.mono C4.out.size)).mono B3.out.size)⟩
  · cases sv with
    | true =>
      have e1 := HMK.out
      have e2 := HSK.out
      unfold markP at e1
      unfold strictP at e2
      rw [if_pos rfl] at e1 e2
      subst e1 e2
      clear HMK HSK
      go_enter Tryd.func5, Tryd.ntmps5
      go_wp2_with (first
        | (go_at_call 19; (with_reducible refine HN.out.mono ?_); rintro e w1 ⟨b, rfl, ht1, hbs, b1⟩; have B1 := Lib.hid b1; have HT1 := Lib.hid ht1; clear b1 ht1)
        | (go_at_call 20; (with_reducible refine (HP.out _ B1.out).mono ?_); rintro e w3 ⟨a0, c0, a1, c1, a2, c2, a3, c3, a4, c4, a5, c5, a6, c6, a7, c7, rfl, ht3, b3⟩; have B3 := Lib.hid (B1.out.trans (b3.mono B1.out.size)); have HSm := Lib.hid (sames_of (HT1.out.below b3) ht3); have HCe := Lib.hid (boxed (w3 := w3) (a0 := a0) (a1 := a1) (a2 := a2) (a3 := a3) (a4 := a4) (a5 := a5) (a6 := a6) (a7 := a7) (c0 := c0) (c1 := c1) (c2 := c2) (c3 := c3) (c4 := c4) (c5 := c5) (c6 := c6) (c7 := c7)); have C4 : Hid (Below w3.heap.size w3 (w3.alloc (.cells #[.slice a0 3 c0, .slice a1 2 c1, .slice a2 2 c2, .slice a3 2 c3, .slice a4 2 c4, .slice a5 2 c5, .slice a6 1 c6, .slice a7 1 c7] 24))) := (Below.refl _ _).alloc (Nat.le_refl _) _; clear b3 ht3)
        | (go_at_call 7; (with_reducible refine (HA.out _ (B3.out.trans (C4.out.mono B3.out.size))).mono ?_); rintro e w5 ⟨rfl, b5⟩; have D5 := Lib.hid b5; clear b5)
        | (go_at_call 21; (with_reducible refine (HM1.out _ (B3.out.trans ((C4.out.trans (D5.out.mono C4.out.size)).mono B3.out.size))).mono ?_); rintro e w6 ⟨rfl, b6⟩; have D6 := Lib.hid (D5.out.trans (b6.mono D5.out.size)); clear b6)
        | (go_at_call 22; (with_reducible refine (HM2.out _).mono ?_); rintro e w7 ⟨rfl, b7⟩; have D7 := Lib.hid (D6.out.trans (b7.mono D6.out.size)); have d0 := HCe.out _ D7.out 0 _ rfl; clear b7)
        | (go_at_call 23; (with_reducible refine (HNm.out _ (B3.out.trans ((C4.out.trans (D7.out.mono C4.out.size)).mono B3.out.size))).mono ?_); rintro e w8 ⟨rfl, hw⟩; have hw := hw.symm; subst hw)
        | (go_at_call 24; (with_reducible refine (HMk.out _).mono ?_); rintro e w8 ⟨rfl, hw⟩; have hw := hw.symm; subst hw)
        | (go_at_call 25; (with_reducible refine (HSt.out _).mono ?_); rintro e w8 ⟨rfl, hw⟩; have hw := hw.symm; subst hw)
        | (go_at_call 14; (with_reducible refine (HSm.out.s0 _ (C4.out.trans (D7.out.mono C4.out.size))).mono ?_); rintro e w20 ⟨rfl, b20⟩; have E0 := Lib.hid (D7.out.trans (b20.mono D7.out.size)); have d1 := HCe.out _ E0.out 1 _ rfl; clear b20)
        | (go_at_call 14; (with_reducible refine (HSm.out.s1 _ (C4.out.trans (E0.out.mono C4.out.size))).mono ?_); rintro e w21 ⟨rfl, b21⟩; have E1 := Lib.hid (E0.out.trans (b21.mono E0.out.size)); have d2 := HCe.out _ E1.out 2 _ rfl; clear b21)
        | (go_at_call 14; (with_reducible refine (HSm.out.s2 _ (C4.out.trans (E1.out.mono C4.out.size))).mono ?_); rintro e w22 ⟨rfl, b22⟩; have E2 := Lib.hid (E1.out.trans (b22.mono E1.out.size)); have d3 := HCe.out _ E2.out 3 _ rfl; have d2 := HCe.out _ E2.out 2 _ rfl; clear b22)
        | (go_at_call 14; (with_reducible refine (HSm.out.s3 _ (C4.out.trans (E2.out.mono C4.out.size))).mono ?_); rintro e w23 ⟨rfl, b23⟩; have E3 := Lib.hid (E2.out.trans (b23.mono E2.out.size)); have d4 := HCe.out _ E3.out 4 _ rfl; clear b23)
        | (go_at_call 14; (with_reducible refine (HSm.out.s4 _ (C4.out.trans (E3.out.mono C4.out.size))).mono ?_); rintro e w24 ⟨rfl, b24⟩; have E4 := Lib.hid (E3.out.trans (b24.mono E3.out.size)); have d5 := HCe.out _ E4.out 5 _ rfl; have d4 := HCe.out _ E4.out 4 _ rfl; clear b24)
        | (go_at_call 14; (with_reducible refine (HSm.out.s5 _ (C4.out.trans (E4.out.mono C4.out.size))).mono ?_); rintro e w25 ⟨rfl, b25⟩; have E5 := Lib.hid (E4.out.trans (b25.mono E4.out.size)); have d6 := HCe.out _ E5.out 6 _ rfl; clear b25)
        | (go_at_call 14; (with_reducible refine (HSm.out.s6 _ (C4.out.trans (E5.out.mono C4.out.size))).mono ?_); rintro e w26 ⟨rfl, b26⟩; have E6 := Lib.hid (E5.out.trans (b26.mono E5.out.size)); have d7 := HCe.out _ E6.out 7 _ rfl; have d6 := HCe.out _ E6.out 6 _ rfl; clear b26)
        | (go_at_call 14; (with_reducible refine (HSm.out.s7 _ (C4.out.trans (E6.out.mono C4.out.size))).mono ?_); rintro e w27 ⟨rfl, b27⟩; have E7 := Lib.hid (E6.out.trans (b27.mono E6.out.size)); clear b27))
      go_ret
      exact ⟨rfl, B3.out.trans ((C4.out.trans (E7.out.mono C4.out.size)).mono B3.out.size)⟩
    | false =>
      have e1 := HMK.out
      have e2 := HSK.out
      unfold markP at e1
      unfold strictP at e2
      rw [if_neg (by decide)] at e1 e2
      subst e1 e2
      clear HMK HSK
      go_enter Tryd.func5, Tryd.ntmps5
      go_wp2_with (first
        | (go_at_call 19; (with_reducible refine HN.out.mono ?_); rintro e w1 ⟨b, rfl, ht1, hbs, b1⟩; have B1 := Lib.hid b1; have HT1 := Lib.hid ht1; clear b1 ht1)
        | (go_at_call 20; (with_reducible refine (HP.out _ B1.out).mono ?_); rintro e w3 ⟨a0, c0, a1, c1, a2, c2, a3, c3, a4, c4, a5, c5, a6, c6, a7, c7, rfl, ht3, b3⟩; have B3 := Lib.hid (B1.out.trans (b3.mono B1.out.size)); have HSm := Lib.hid (sames_of (HT1.out.below b3) ht3); have HCe := Lib.hid (boxed (w3 := w3) (a0 := a0) (a1 := a1) (a2 := a2) (a3 := a3) (a4 := a4) (a5 := a5) (a6 := a6) (a7 := a7) (c0 := c0) (c1 := c1) (c2 := c2) (c3 := c3) (c4 := c4) (c5 := c5) (c6 := c6) (c7 := c7)); have C4 : Hid (Below w3.heap.size w3 (w3.alloc (.cells #[.slice a0 3 c0, .slice a1 2 c1, .slice a2 2 c2, .slice a3 2 c3, .slice a4 2 c4, .slice a5 2 c5, .slice a6 1 c6, .slice a7 1 c7] 24))) := (Below.refl _ _).alloc (Nat.le_refl _) _; clear b3 ht3)
        | (go_at_call 7; (with_reducible refine (HA.out _ (B3.out.trans (C4.out.mono B3.out.size))).mono ?_); rintro e w5 ⟨rfl, b5⟩; have D5 := Lib.hid b5; clear b5)
        | (go_at_call 21; (with_reducible refine (HM1.out _ (B3.out.trans ((C4.out.trans (D5.out.mono C4.out.size)).mono B3.out.size))).mono ?_); rintro e w6 ⟨rfl, b6⟩; have D6 := Lib.hid (D5.out.trans (b6.mono D5.out.size)); clear b6)
        | (go_at_call 22; (with_reducible refine (HM2.out _).mono ?_); rintro e w7 ⟨rfl, b7⟩; have D7 := Lib.hid (D6.out.trans (b7.mono D6.out.size)); have d0 := HCe.out _ D7.out 0 _ rfl; clear b7)
        | (go_at_call 23; (with_reducible refine (HNm.out _ (B3.out.trans ((C4.out.trans (D7.out.mono C4.out.size)).mono B3.out.size))).mono ?_); rintro e w8 ⟨rfl, hw⟩; have hw := hw.symm; subst hw)
        | (go_at_call 24; (with_reducible refine (HMk.out _).mono ?_); rintro e w8 ⟨rfl, hw⟩; have hw := hw.symm; subst hw)
        | (go_at_call 25; (with_reducible refine (HSt.out _).mono ?_); rintro e w8 ⟨rfl, hw⟩; have hw := hw.symm; subst hw)
        | (go_at_call 14; (with_reducible refine (HSm.out.s0 _ (C4.out.trans (D7.out.mono C4.out.size))).mono ?_); rintro e w20 ⟨rfl, b20⟩; have E0 := Lib.hid (D7.out.trans (b20.mono D7.out.size)); have d1 := HCe.out _ E0.out 1 _ rfl; clear b20)
        | (go_at_call 14; (with_reducible refine (HSm.out.s1 _ (C4.out.trans (E0.out.mono C4.out.size))).mono ?_); rintro e w21 ⟨rfl, b21⟩; have E1 := Lib.hid (E0.out.trans (b21.mono E0.out.size)); have d2 := HCe.out _ E1.out 2 _ rfl; clear b21)
        | (go_at_call 14; (with_reducible refine (HSm.out.s2 _ (C4.out.trans (E1.out.mono C4.out.size))).mono ?_); rintro e w22 ⟨rfl, b22⟩; have E2 := Lib.hid (E1.out.trans (b22.mono E1.out.size)); have d3 := HCe.out _ E2.out 3 _ rfl; have d2 := HCe.out _ E2.out 2 _ rfl; clear b22)
        | (go_at_call 14; (with_reducible refine (HSm.out.s3 _ (C4.out.trans (E2.out.mono C4.out.size))).mono ?_); rintro e w23 ⟨rfl, b23⟩; have E3 := Lib.hid (E2.out.trans (b23.mono E2.out.size)); have d4 := HCe.out _ E3.out 4 _ rfl; clear b23)
        | (go_at_call 14; (with_reducible refine (HSm.out.s4 _ (C4.out.trans (E3.out.mono C4.out.size))).mono ?_); rintro e w24 ⟨rfl, b24⟩; have E4 := Lib.hid (E3.out.trans (b24.mono E3.out.size)); have d5 := HCe.out _ E4.out 5 _ rfl; have d4 := HCe.out _ E4.out 4 _ rfl; clear b24)
        | (go_at_call 14; (with_reducible refine (HSm.out.s5 _ (C4.out.trans (E4.out.mono C4.out.size))).mono ?_); rintro e w25 ⟨rfl, b25⟩; have E5 := Lib.hid (E4.out.trans (b25.mono E4.out.size)); have d6 := HCe.out _ E5.out 6 _ rfl; clear b25)
        | (go_at_call 14; (with_reducible refine (HSm.out.s6 _ (C4.out.trans (E5.out.mono C4.out.size))).mono ?_); rintro e w26 ⟨rfl, b26⟩; have E6 := Lib.hid (E5.out.trans (b26.mono E5.out.size)); have d7 := HCe.out _ E6.out 7 _ rfl; have d6 := HCe.out _ E6.out 6 _ rfl; clear b26)
        | (go_at_call 14; (with_reducible refine (HSm.out.s7 _ (C4.out.trans (E6.out.mono C4.out.size))).mono ?_); rintro e w27 ⟨rfl, b27⟩; have E7 := Lib.hid (E6.out.trans (b27.mono E6.out.size)); clear b27))
      go_ret
      exact ⟨rfl, B3.out.trans ((C4.out.trans (E7.out.mono C4.out.size)).mono B3.out.size)⟩
end Go.Proofs.YtkigohenfaomkaaDoor
