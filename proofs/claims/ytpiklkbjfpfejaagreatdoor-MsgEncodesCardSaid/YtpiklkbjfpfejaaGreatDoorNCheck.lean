/- Contracts of the check of a list of names, on both sides. -/
import Derived.Test.YtpiklkbjfpfejaaGreatDoorNRight
namespace Go.Proofs.YtpiklkbjfpfejaaGreatDoor
open Go.RowKit

theorem check_long {xs : List (List UInt8)} (h : 16 < xs.length) : checkP xs = 2 := if_pos h
theorem check_wrong {xs : List (List UInt8)} (h : ¬ 16 < xs.length) {x : List UInt8} (hx : x ∈ xs) (hr : rightL x = false) : checkP xs = 3 := by
  unfold checkP
  rw [if_neg h, if_neg (fun ha => by have := List.all_eq_true.1 ha x hx; rw [hr] at this; cases this)]
theorem check_right {xs : List (List UInt8)} (h : ¬ 16 < xs.length) (ha : ∀ x ∈ xs, rightL x = true) : checkP xs = 0 := by
  unfold checkP
  rw [if_neg h, if_pos (List.all_eq_true.2 ha)]
theorem take_right {xs : List (List UInt8)} {k : Nat} (hlt : k < xs.length) (h : ∀ x ∈ xs.take k, rightL x = true) (hr : rightL xs[k] = true) : ∀ x ∈ xs.take (k + 1), rightL x = true := by
  intro x hx
  rw [List.take_succ_eq_append_getElem hlt, List.mem_append] at hx
  rcases hx with hx | hx
  · exact h x hx
  · simp at hx
    rw [hx]; exact hr

set_option maxRecDepth 100000 in
theorem nCheck_any {w : World} {v : Value} {xs : List (List UInt8)} (h : TextsAt w v (xs.map bs)) (hl : xs.length ≤ maxLen) (hs : ∀ x ∈ xs, x.length ≤ 1000000) :
    Calls Tryz.prog 87 #[v] w fun e w' => e = .returned (.int .i64 (checkP xs : Int)) ∧ Below w.heap.size w w' := by
  obtain ⟨ao, cap, rfl, hc⟩ := h
  rw [List.length_map]
  unfold maxLen at hl
  by_cases h16 : 16 < xs.length
  · have HE := Lib.hid (check_long h16)
    clear hc hs
    go_enter Tryz.func87, Tryz.ntmps87
    go_wp2
    go_ret
    exact ⟨by rw [HE.out]; rfl, Below.refl _ _⟩
  · go_enter Tryz.func87, Tryz.ntmps87
    go_wp2_with fail
    go_loopw [10] (fun i wr => ∃ k : Nat, k ≤ xs.length ∧ i = .int .i64 k ∧ (∀ x ∈ xs.take k, rightL x = true) ∧ Below w.heap.size w wr) (fun i _ => xs.length - (intOf i).toNat)
    case atStart => exact ⟨0, Nat.zero_le _, rfl, by simp, Below.refl _ _⟩
    case round =>
      obtain ⟨k, hk, rfl, htk, hbel⟩ := hrel
      by_cases hlt : k < xs.length
      · obtain ⟨b, off, rfl, hb, hcell⟩ := hc (by intro h; simp at h; simp [h] at hlt)
        obtain ⟨y, hy⟩ : ∃ y, y = xs[k] := ⟨_, rfl⟩
        have c1 : wr.cell? ⟨b, off + k, none⟩ = some (.string (bs y)) := (hbel.cell (p := ⟨b, off + k, none⟩) hb).trans (hcell k (bs y) (by simp [hlt, hy]))
        have HN : Hid (rightL y = true → ∀ x ∈ xs.take (k + 1), rightL x = true) := fun e => take_right hlt htk (by rw [← hy]; exact e)
        have HT : Hid (rightL y = false → checkP xs = 3) := fun e => check_wrong h16 (by rw [hy]; exact List.getElem_mem hlt) e
        have HR := Lib.hid (fun W => nRight_any y (hs y (by rw [hy]; exact List.getElem_mem hlt)) W)
        clear hc hcell htk hy hs
        generalize bs y = S at *
        cases hr : rightL y with
        | true =>
          rw [hr] at HR
          go_wp2_with (go_at_call 110; refine (HR.out _).mono ?_; rintro e w1 ⟨rfl, b1⟩)
          go_roundw
          case rel => exact ⟨k + 1, by omega, by go_num, HN.out hr, hbel.trans (b1.mono hbel.size)⟩
          case measure => simp [intOf]; omega
        | false =>
          rw [hr] at HR
          go_wp2_with (go_at_call 110; refine (HR.out _).mono ?_; rintro e w1 ⟨rfl, b1⟩)
          go_ret
          exact ⟨by rw [HT.out hr]; rfl, hbel.trans (b1.mono hbel.size)⟩
      · have hkl : k = xs.length := by omega
        subst hkl
        rw [List.take_length] at htk
        have HE := Lib.hid (check_right h16 htk)
        clear htk hlt hc hs
        go_wp2_with fail
        go_ret
        exact ⟨by rw [HE.out]; rfl, hbel⟩

set_option maxRecDepth 100000 in
theorem rWrong_any {w : World} {v : Value} {xs : List (List UInt8)} (h : TextsAt w v (xs.map bs)) (hl : xs.length ≤ maxLen) (hs : ∀ x ∈ xs, x.length ≤ 1000000) :
    Calls Tryz.prog 45 #[v] w fun e w' => e = .returned (.int .i64 (checkP xs : Int)) ∧ w' = w := by
  obtain ⟨ao, cap, rfl, hc⟩ := h
  rw [List.length_map]
  unfold maxLen at hl
  by_cases h16 : 16 < xs.length
  · have HE := Lib.hid (check_long h16)
    clear hc hs
    go_enter Tryz.func45, Tryz.ntmps45
    go_wp2
    go_ret
    exact ⟨by rw [HE.out]; rfl, rfl⟩
  · go_enter Tryz.func45, Tryz.ntmps45
    go_wp2_with fail
    go_loopw [3] (fun i wr => ∃ k : Nat, k ≤ xs.length ∧ i = .int .i64 k ∧ (∀ x ∈ xs.take k, rightL x = true) ∧ wr = w) (fun i _ => xs.length - (intOf i).toNat)
    case atStart => exact ⟨0, Nat.zero_le _, rfl, by simp, rfl⟩
    case round =>
      obtain ⟨k, hk, rfl, htk, rfl⟩ := hrel
      by_cases hlt : k < xs.length
      · obtain ⟨b, off, rfl, hb, hcell⟩ := hc (by intro h; simp at h; simp [h] at hlt)
        obtain ⟨y, hy⟩ : ∃ y, y = xs[k] := ⟨_, rfl⟩
        have c1 : wr.cell? ⟨b, off + k, none⟩ = some (.string (bs y)) := hcell k (bs y) (by simp [hlt, hy])
        have HN : Hid (rightL y = true → ∀ x ∈ xs.take (k + 1), rightL x = true) := fun e => take_right hlt htk (by rw [← hy]; exact e)
        have HT : Hid (rightL y = false → checkP xs = 3) := fun e => check_wrong h16 (by rw [hy]; exact List.getElem_mem hlt) e
        have HR := Lib.hid (fun W => rRight_any y (hs y (by rw [hy]; exact List.getElem_mem hlt)) W)
        clear hc hcell htk hy hs
        generalize bs y = S at *
        cases hr : rightL y with
        | true =>
          rw [hr] at HR
          go_wp2_with (go_at_call 64; refine (HR.out _).mono ?_; rintro e w1 ⟨rfl, rfl⟩)
          go_roundw
          case rel => exact ⟨k + 1, by omega, by go_num, HN.out hr, trivial⟩
          case measure => simp [intOf]; omega
        | false =>
          rw [hr] at HR
          go_wp2_with (go_at_call 64; refine (HR.out _).mono ?_; rintro e w1 ⟨rfl, rfl⟩)
          go_ret
          exact ⟨by rw [HT.out hr]; rfl, rfl⟩
      · have hkl : k = xs.length := by omega
        subst hkl
        rw [List.take_length] at htk
        have HE := Lib.hid (check_right h16 htk)
        clear htk hlt hc hs
        go_wp2_with fail
        go_ret
        exact ⟨by rw [HE.out]; rfl, rfl⟩
end Go.Proofs.YtpiklkbjfpfejaaGreatDoor
