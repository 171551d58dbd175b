/- Contracts of Join, on both sides. -/
import Derived.Test.YtpiklkbjfpfejaaGreatDoorNCheck
import Derived.Test.YtpiklkbjfpfejaaGreatDoorStrs
import Derived.Test.YtpiklkbjfpfejaaGreatDoorShelf
import Derived.Laws.Concat
namespace Go.Proofs.YtpiklkbjfpfejaaGreatDoor
open Go.RowKit

set_option maxRecDepth 100000 in
theorem rJoin_any {w : World} {v : Value} {xs : List (List UInt8)} (h : TextsAt w v (xs.map bs)) (hl : xs.length ≤ 1000) (hs : ∀ x ∈ xs, x.length ≤ 1000) :
    Calls Tryz.prog 47 #[v] w fun e w' => e = .returned (.string (bs (joinL xs))) ∧ w' = w := by
  obtain ⟨ao, cap, rfl, hc⟩ := h
  rw [List.length_map]
  have HJ : Hid (∀ k : Nat, (joinL (xs.take k)).length ≤ 1001000) := fun k => by
    have h1 := joinL_le 1000 (xs.take k) (fun x hx => hs x (List.mem_of_mem_take hx))
    have h2 : (xs.take k).length ≤ 1000 := by simp; omega
    have : (xs.take k).length * (1000 + 1) ≤ 1000 * 1001 := Nat.mul_le_mul h2 (Nat.le_refl _)
    omega
  go_enter Tryz.func47, Tryz.ntmps47
  go_wp2_with fail
  go_loopw [3, 4] (fun u i wr => ∃ k : Nat, k ≤ xs.length ∧ i = .int .i64 k ∧ u = .string (bs (joinL (xs.take k))) ∧ wr = w) (fun _ i _ => xs.length - (intOf i).toNat)
  case atStart => exact ⟨0, Nat.zero_le _, rfl, rfl, rfl⟩
  case round =>
    obtain ⟨k, hk, rfl, rfl, rfl⟩ := hrel
    by_cases hlt : k < xs.length
    · obtain ⟨b, off, rfl, hb, hcell⟩ := hc (by intro h; simp at h; simp [h] at hlt)
      obtain ⟨y, hy⟩ : ∃ y, y = xs[k] := ⟨_, rfl⟩
      have c1 : wr.cell? ⟨b, off + k, none⟩ = some (.string (bs y)) := hcell k (bs y) (by simp [hlt, hy])
      have hys := hs y (by rw [hy]; exact List.getElem_mem hlt)
      have hJk := HJ.out k
      by_cases h0 : k = 0
      · subst h0
        have HE : Hid (bs (joinL (xs.take 1)) = bs y) := by
          show bs (joinL (xs.take 1)) = bs y
          rw [List.take_succ_eq_append_getElem hlt, ← hy]
          simp [joinL_one]
        have hz : bs (joinL (xs.take 0)) = ⟨#[]⟩ := rfl
        have g1 : ∀ W : World, (Op.stringOp .add ⟨#[]⟩ (bs y)).run Tryz.prog W = .ok (.string (bs y)) W := fun W => by
          have := run_string_add_sum (P := Tryz.prog) W (bs []) (bs y) (by rw [bs_size, bs_size]; simp; omega)
          rw [bs_append] at this
          exact this
        have c2 : wr.cell? ⟨b, off, none⟩ = some (.string (bs y)) := c1
        rw [hz]
        clear hc hcell hy HJ hJk hz c1
        generalize bs y = Y at *
        go_wp2_with fail
        go_roundw
        case rel => exact ⟨1, by omega, by go_num, by rw [HE.out], trivial⟩
        case measure => simp [intOf]; omega
      · have hq : decide ((k : Int) > 0) = true := decide_eq_true (by omega)
        have hne : xs.take k ≠ [] := by
          intro e
          have := congrArg List.length e
          rw [List.length_take, List.length_nil] at this
          omega
        have HE : Hid (bs (joinL (xs.take (k + 1))) = bs (joinL (xs.take k)) ++ ⟨#[44]⟩ ++ bs y) := by
          show bs (joinL (xs.take (k + 1))) = _
          rw [List.take_succ_eq_append_getElem hlt, ← hy, joinL_snoc _ _ hne, show (⟨#[44]⟩ : ByteArray) = bs [44] from rfl, bs_append, bs_append]
        have g1 : ∀ W : World, (Op.stringOp .add (bs (joinL (xs.take k))) ⟨#[44]⟩).run Tryz.prog W = .ok (.string (bs (joinL (xs.take k)) ++ ⟨#[44]⟩)) W := fun W => run_string_add_sum W _ _ (by rw [bs_size, show (⟨#[44]⟩ : ByteArray).size = 1 from rfl]; omega)
        have g2 : ∀ W : World, (Op.stringOp .add (bs (joinL (xs.take k)) ++ ⟨#[44]⟩) (bs y)).run Tryz.prog W = .ok (.string (bs (joinL (xs.take k)) ++ ⟨#[44]⟩ ++ bs y)) W := fun W => run_string_add_sum W _ _ (by rw [ByteArray.size_append, bs_size, bs_size, show (⟨#[44]⟩ : ByteArray).size = 1 from rfl]; omega)
        clear hc hcell hy HJ hJk hne
        generalize bs (joinL (xs.take k)) ++ ⟨#[44]⟩ ++ bs y = J3 at *
        generalize bs (joinL (xs.take k)) ++ ⟨#[44]⟩ = J2 at *
        generalize bs (joinL (xs.take k)) = J1 at *
        generalize bs y = Y at *
        have hpk : 0 < k := by omega
        go_wp2_with fail
        go_roundw
        case rel => exact ⟨k + 1, by omega, by go_num, by rw [HE.out], trivial⟩
        case measure => simp [intOf]; omega
    · have hkl : k = xs.length := by omega
      subst hkl
      rw [List.take_length]
      clear hlt hc HJ
      go_wp2_with fail
      go_ret
      exact ⟨rfl, rfl⟩

set_option maxRecDepth 100000 in
theorem nJoin_any {w : World} {v : Value} {xs : List (List UInt8)} (h : TextsAt w v (xs.map bs)) (hcap : ∀ ao cap, v = .slice ao xs.length cap → xs.length ≤ cap) (hl : xs.length ≤ 1000) (hs : ∀ x ∈ xs, x.length ≤ 1000) :
    Calls Tryz.prog 62 #[v] w fun e w' => e = .returned (.tuple #[.string (if checkP xs = 0 then bs (joinL xs) else ⟨#[]⟩), .int .i64 (checkP xs : Int)]) ∧ Below w.heap.size w w' := by
  have HC := Lib.hid (nCheck_any h (by unfold maxLen; omega) (fun x hx => by have := hs x hx; omega))
  have hmm : (xs.map bs).map (·.data.toList) = xs := by
    rw [List.map_map]
    exact (List.map_congr_left fun x _ => by simp [bs]).trans (List.map_id xs)
  have HJ : Hid (∀ W : World, Below w.heap.size w W → Calls Tryz.prog 88 #[v, .string ⟨#[44]⟩] W fun e w' => e = .returned (.string (bs (joinL xs))) ∧ Below W.heap.size W w') := fun W hb => by
    have hT := h.below hb
    obtain ⟨ao, cap, rfl, hc⟩ := hT
    have hlen := joinL_le 1000 xs hs
    have hm : xs.length * (1000 + 1) ≤ 1000 * 1001 := Nat.mul_le_mul hl (Nat.le_refl _)
    rw [List.length_map] at hcap ⊢
    cases xs with
    | nil =>
      exact (Tryz.strings_Join_none ao cap ⟨#[44]⟩ W).mono fun e w' ⟨he, hw⟩ => ⟨he, hw ▸ Below.refl _ _⟩
    | cons x r =>
      obtain ⟨b, off, rfl, hbl, hcell⟩ := hc (by simp)
      have hcp := hcap (some ⟨b, off, none⟩) cap rfl
      have := Tryz.strings_Join b off cap ((x :: r).map bs) ⟨#[44]⟩ W (fun j y hj => hcell j y hj) hbl (by simp; simp at hl; omega) (by rw [List.length_map]; exact hcp) (by rw [hmm]; exact Nat.le_trans hlen (by omega))
      rw [hmm, List.length_map] at this
      exact this
  clear hcap hs hmm
  obtain ⟨ao, cap, rfl, hc⟩ := h
  rw [List.length_map] at *
  clear hc
  generalize joinL xs = J at *
  generalize bs J = JJ at *
  generalize checkP xs = c at *
  by_cases hc0 : c = 0
  · subst hc0
    go_enter Tryz.func62, Tryz.ntmps62
    go_wp2_with (first
      | (go_at_call 87; refine HC.out.mono ?_; rintro e w1 ⟨rfl, b1⟩)
      | (go_at_call 88; refine (HJ.out _ b1).mono ?_; rintro e w2 ⟨rfl, b2⟩))
    go_ret2
    exact ⟨rfl, b1.trans (b2.mono b1.size)⟩
  · have hq : ((c : Int) != 0) = true := by rw [bne_iff_ne]; omega
    go_enter Tryz.func62, Tryz.ntmps62
    go_wp2_with (first
      | (go_at_call 87; refine HC.out.mono ?_; rintro e w1 ⟨rfl, b1⟩)
      | (go_at_call 88; refine (HJ.out _ b1).mono ?_; rintro e w2 ⟨rfl, b2⟩))
    go_ret2
    exact ⟨rfl, b1⟩
end Go.Proofs.YtpiklkbjfpfejaaGreatDoor
