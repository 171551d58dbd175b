/- Part 29 of what the statement wants. -/
import Derived.BigQuiet
import Derived.Test.YtkdljicagepebaaGreatDoorPk07
import Derived.Test.YtkdljicagepebaaGreatDoorPk10
import Derived.Test.YtkdljicagepebaaGreatDoorPk19
import Derived.Test.YtkdljicagepebaaGreatDoorPk27
namespace Go.Proofs.YtkdljicagepebaaGreatDoor
open Go.RowKit

set_option maxHeartbeats 1000000 in
set_option maxRecDepth 100000 in
theorem r15Word_any (z : Int) (w : World) : Calls Tryz.prog 16 #[.int .i64 z] w fun e w' => e = .returned (.string (bs (wordZ z))) ∧ Below w.heap.size w w' := by
  have hN := Holds.new w 9 cells8
  by_cases h : 0 ≤ z ∧ z < 8
  · have hw := wordZ_in h
    obtain ⟨n, rfl⟩ : ∃ n : Nat, z = n := ⟨z.toNat, by omega⟩
    rw [Int.toNat_natCast] at hw
    have hn : n < 8 := by omega
    have hc : (w.alloc (.cells cells8 9)).cell? ⟨w.heap.size, n, none⟩ = some (.string (bs (wordZ n))) := by
      have h1 := hN.cell n
      rw [h1]
      unfold cells8
      simp [hw]
    unfold cells8 pfWords at hc
    simp only [List.map_cons, List.map_nil] at hc
    change (w.alloc (.cells #[.string ⟨#[107, 101, 120]⟩, .string ⟨#[104, 111, 115, 116]⟩, .string ⟨#[101, 110, 99, 45, 99]⟩, .string ⟨#[101, 110, 99, 45, 115]⟩, .string ⟨#[109, 97, 99, 45, 99]⟩, .string ⟨#[109, 97, 99, 45, 115]⟩, .string ⟨#[99, 111, 109, 112, 45, 99]⟩, .string ⟨#[99, 111, 109, 112, 45, 115]⟩] 9)).cell? _ = _ at hc
    have q1 : decide ((n : Int) < 0) = false := decide_eq_false (by omega)
    have q2 : decide ((n : Int) > 7) = false := decide_eq_false (by omega)
    clear h hN hw
    generalize bs (wordZ n) = S at *
    go_enter Tryz.func16, Tryz.ntmps16
    go_wp2_with fail
    go_ret
    exact ⟨rfl, (Below.refl _ _).alloc (Nat.le_refl _) _⟩
  · rw [wordZ_out h, show bs ([] : List UInt8) = ⟨#[]⟩ from rfl]
    clear hN
    by_cases h0 : z < 0
    · have q1 : decide (z < 0) = true := decide_eq_true h0
      go_enter Tryz.func16, Tryz.ntmps16
      go_wp2_with fail
      go_ret
      exact ⟨rfl, (Below.refl _ _).alloc (Nat.le_refl _) _⟩
    · have q1 : decide (z < 0) = false := decide_eq_false h0
      have q2 : decide (z > 7) = true := decide_eq_true (by omega)
      clear h
      go_enter Tryz.func16, Tryz.ntmps16
      go_wp2_with fail
      go_ret
      exact ⟨rfl, (Below.refl _ _).alloc (Nat.le_refl _) _⟩
end Go.Proofs.YtkdljicagepebaaGreatDoor

namespace Go.Proofs.YtkdljicagepebaaGreatDoor
open Go.RowKit

set_option maxRecDepth 100000 in
theorem r15Names_any (w : World) : Calls Tryz.prog 78 #[] w fun e w' => ∃ b, e = .returned (.slice (some ⟨b, 0, none⟩) 3 3) ∧ TextsAt w' (.slice (some ⟨b, 0, none⟩) 3 3) (names3.map bs) ∧ b < w'.heap.size ∧ Below w.heap.size w w' := by
  have hN := Holds.new w 9 #[.string (bs meCurve), .string (bs meEcdh), .string (bs meGex)]
  have HT : Hid (TextsAt (w.alloc (.cells #[.string (bs meCurve), .string (bs meEcdh), .string (bs meGex)] 9)) (.slice (some ⟨w.heap.size, 0, none⟩) 3 3) (names3.map bs)) := ⟨_, _, rfl, fun _ => ⟨_, 0, rfl, hN.lt, fun k x hk => by
    match k, hk with
    | 0, hk => obtain rfl := (Option.some.inj hk).symm; exact hN.cell 0
    | 1, hk => obtain rfl := (Option.some.inj hk).symm; exact hN.cell 1
    | 2, hk => obtain rfl := (Option.some.inj hk).symm; exact hN.cell 2
    | k + 3, hk => simp [names3] at hk⟩⟩
  have HL := Lib.hid hN.lt
  clear hN
  go_enter Tryz.func78, Tryz.ntmps78
  go_wp2_with fail
  go_ret
  exact ⟨_, rfl, HT.out, HL.out, (Below.refl _ _).alloc (Nat.le_refl _) _⟩

set_option maxRecDepth 100000 in
theorem r15Method_any (x : List UInt8) (w : World) : Calls Tryz.prog 65 #[.string (bs x)] w fun e w' => e = .returned (.int .i64 (methodP x)) ∧ Below w.heap.size w w' := by
  have HH : Hid (∀ k : Nat, k < 3 → names3[k]? = some x → methodP x = k + 1) := fun k hk => method_hit3 k hk x
  have HE : Hid ((∀ y ∈ names3, y ≠ x) → methodP x = 0) := method_miss
  have hlen : names3.length = 3 := rfl
  have HQ := Lib.hid (fun y => bsTest y x)
  have HN := Lib.hid (r15Names_any w)
  generalize names3 = l at *
  generalize methodP x = m at *
  go_enter Tryz.func65, Tryz.ntmps65
  go_wp2_with (go_at_call 78; (with_reducible refine HN.out.mono ?_); rintro e w1 ⟨b, rfl, ht, hbs, b1⟩)
  obtain ⟨_, _, e1, h1⟩ := id ht
  injection e1 with e1 g1 g2
  clear g1 g2
  subst e1
  obtain ⟨_, _, e2, _, hc⟩ := h1 (by intro h; rw [List.map_eq_nil_iff] at h; rw [h] at hlen; simp at hlen)
  injection e2 with e2
  injection e2 with e2 e3
  subst e2 e3
  have HC := Lib.hid hc
  clear hc h1 ht HN
  go_loopw [4] (fun i wr => ∃ k : Nat, k ≤ 3 ∧ i = .int .i64 k ∧ (∀ y ∈ l.take k, y ≠ x) ∧ wr = w1) (fun i _ => 3 - (intOf i).toNat)
  case atStart => exact ⟨0, Nat.zero_le _, rfl, by simp, rfl⟩
  case round =>
    obtain ⟨k, hk, rfl, htk, rfl⟩ := hrel
    by_cases hlt : k < 3
    · have hkl : k < l.length := by omega
      obtain ⟨y, hy⟩ : ∃ y, y = l[k] := ⟨_, rfl⟩
      have c1 := HC.out k (bs y) (by rw [List.getElem?_map, List.getElem?_eq_getElem hkl, hy]; rfl)
      rw [Nat.zero_add] at c1
      have hq := HQ.out y
      have HNe : Hid (y ≠ x → ∀ z ∈ l.take (k + 1), z ≠ x) := fun e => pf_take hkl htk (by rw [← hy]; exact e)
      have HTr : Hid (y = x → m = k + 1) := fun e => HH.out k hlt (by rw [← e, hy]; exact List.getElem?_eq_getElem hkl)
      clear hy htk HC
      by_cases hm : y = x
      · rw [decide_eq_true hm] at hq
        have HR := Lib.hid (HTr.out hm)
        clear hm HTr HNe HQ HH HE
        generalize bs y = Y at *
        generalize bs x = X at *
        go_wp2_with fail
        go_ret
        exact ⟨by rw [HR.out]; rfl, b1⟩
      · rw [decide_eq_false hm] at hq
        have HR := Lib.hid (HNe.out hm)
        clear hm HTr HNe HQ HH HE
        generalize bs y = Y at *
        generalize bs x = X at *
        go_wp2_with fail
        go_roundw
        case rel => exact ⟨k + 1, by omega, by go_num, HR.out, trivial⟩
        case measure => simp [intOf]; omega
    · have hkl : k = 3 := by omega
      subst hkl
      have HX : Hid (m = 0) := HE.out (by rwa [List.take_of_length_le (by omega)] at htk)
      clear htk hlt HC HQ HH HE
      go_wp2_with fail
      go_ret
      exact ⟨by rw [HX.out]; rfl, b1⟩

end Go.Proofs.YtkdljicagepebaaGreatDoor
